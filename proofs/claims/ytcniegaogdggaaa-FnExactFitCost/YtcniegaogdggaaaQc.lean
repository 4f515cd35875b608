/-
  What FitCost of the program and of the model answer.
-/
import Derived.Test.YtcniegaogdggaaaQb
import Derived.Test.YtcniegaogdggaaaHc
namespace Go.Proofs.Ytcniegaogdggaaa
open Go.RowKit

theorem ord9_cast {os : List Int} {n i : Nat} (h : Od.ordB os n = true) (hi : i < n) : os.getD i 0 = ((Od.nth os i : Nat) : Int) := Od.nth_cast h hi
theorem fit9_bd {C : List (List Int)} {os : List Int} (h : Hu.costB C = true) (ho : Od.ordB os C.length = true) (k : Nat) (hk : k ≤ C.length) : 0 ≤ Hu.costTo C os k ∧ Hu.costTo C os k ≤ 1000 := by
  have h1 := Hu.costTo_bd h ho k hk
  have h2 := (Hu.costB_len h).2
  omega
set_option maxHeartbeats 4000000 in
theorem fc_w {a b : Option Addr} {n m c d : Nat} {C : List (List Int)} {os : List Int} {w : World} (hn : C.length = n) (hm : os.length = m) (h : CRow w a C) (ho : ARow w b os) :
    Calls Try.prog 25 #[.slice a n c, .slice b m d] w fun e w' => e = .returned (.tuple #[.int .i64 (Hu.fcI C os), .bool (Hu.fcB C os)]) ∧ Below w.heap.size w w' := by
  have HN := hide hn
  have HM := hide hm
  have H := hide h
  have HO := hide ho
  cases hg : Hu.costB C
  · have HG := hide hg
    have e1 : Hu.fcB C os = false := by simp [Hu.fcB, hg]
    have e2 : Hu.fcI C os = 0 := by simp [Hu.fcI, e1]
    rw [e1, e2]
    clear h ho hn hm hg e1 e2
    go_enter Try.func25, Try.ntmps25
    go_wp2_with fail
    refine (gc_eq HN H HG).mono ?_
    rintro e w1 ⟨rfl, hw1⟩
    obtain rfl : w = w1 := hw1.symm
    go_wp2_with fail
    go_ret2
    exact ⟨rfl, Below.refl _ _⟩
  · have hl := Hu.costB_len hg
    rw [hn] at hl
    have h10 := hl.2
    cases hod : Od.ordB os n
    · have HG := hide hg
      have HOD := hide hod
      have e1 : Hu.fcB C os = false := by simp [Hu.fcB, hg, hn, hod]
      have e2 : Hu.fcI C os = 0 := by simp [Hu.fcI, e1]
      rw [e1, e2]
      clear h ho hn hm hg e1 e2 hod hl
      go_enter Try.func25, Try.ntmps25
      go_wp2_with fail
      refine (gc_eq HN H HG).mono ?_
      rintro e w1 ⟨rfl, hw1⟩
      obtain rfl : w = w1 := hw1.symm
      go_wp2_with fail
      refine (eo_eq HM h10 HO HOD).mono ?_
      rintro e w1 ⟨rfl, hb1⟩
      go_wp2_with fail
      go_ret2
      exact ⟨rfl, hb1⟩
    · have HG := hide hg
      have HOD := hide hod
      have e1 : Hu.fcB C os = true := by simp [Hu.fcB, hg, hn, hod]
      have e2 : Hu.fcI C os = Hu.costTo C os n := by simp [Hu.fcI, e1, hn]
      rw [e1, e2]
      have hmn : m = n := by rw [← hm]; exact (Od.ordB_iff.1 hod).1
      subst hmn
      have HCT := hide fun (k : Nat) (hk : k ≤ m) => fit9_bd hg (by rw [hn]; exact hod) k (by rw [hn]; exact hk)
      have HZ : Hid (Hu.costTo C os 0 = 0) := hide rfl
      have HSU := hide fun (k : Nat) => (show Hu.costTo C os (k + 1) = Hu.costTo C os k + Hu.ct C k (Od.nth os k) from rfl)
      have HCL := hide fun (i : Nat) (hi : i < m) => (Hu.costB_row hg (show i < C.length by rw [hn]; exact hi)).1.trans hn
      have HLT := hide fun (i : Nat) (hi : i < m) => Od.nth_lt hod hi
      have HCA := hide fun (i : Nat) (hi : i < m) => ord9_cast hod hi
      clear h ho hn hm hg e1 e2 hod hl
      go_enter Try.func25, Try.ntmps25
      go_wp2_with fail
      refine (gc_eq HN H HG).mono ?_
      rintro e w1 ⟨rfl, hw1⟩
      obtain rfl : w = w1 := hw1.symm
      go_wp2_with fail
      refine (eo_eq HM h10 HO HOD).mono ?_
      rintro e w1 ⟨rfl, hb1⟩
      have H1 := hide (H.out.below hb1)
      have HO1 := hide (HO.out.below hb1)
      have HB1 := hide hb1
      clear hb1 H HO
      go_wp2_with fail
      go_loop [6, 7, 8, 21] (fun s6 _ _ s => ∃ (k : Nat) (q : Int), s6 = .int .i64 q ∧ s = .int .i64 k ∧ k ≤ m ∧ Hid (q = Hu.costTo C os k)) (fun _ _ _ s => m - (intOf s).toNat)
      case atStart => exact ⟨0, 0, rfl, rfl, Nat.zero_le _, hide HZ.out.symm⟩
      case round =>
        obtain ⟨k, q, rfl, rfl, hk, HQ⟩ := hrel
        by_cases hlt : k < m
        · obtain ⟨b1, off, ai, ci, rfl, hb, r1, R1⟩ := H1.out.at (i := k) (by rw [HN.out]; exact hlt)
          obtain ⟨b2, off2, rfl, r2⟩ := HO1.out.at (i := k) (by rw [HM.out]; exact hlt)
          rw [HCA.out k hlt] at r2
          rw [HCL.out k hlt] at r1
          have hnl := HLT.out k hlt
          obtain ⟨b3, off3, rfl, r3⟩ := R1.at (i := Od.nth os k) (by rw [HCL.out k hlt]; exact hnl)
          have HQ1 : Hid (q + (C.getD k []).getD (Od.nth os k) 0 = Hu.costTo C os (k + 1)) := hide (by rw [HSU.out k, HQ.out]; rfl)
          have c1 := HCT.out k hk
          have c2 := HCT.out (k + 1) (by omega)
          rw [← HQ.out] at c1
          rw [← HQ1.out] at c2
          generalize (C.getD k []).getD (Od.nth os k) 0 = x at *
          generalize Od.nth os k = y at *
          have j0 : (0 : Int) ≤ (k : Int) := by omega
          have j1 : (k : Int) < (m : Int) := by omega
          have y0 : (0 : Int) ≤ (y : Int) := by omega
          have y1 : (y : Int) < (m : Int) := by omega
          clear R1
          go_wp2_with fail
          go_round
          case rel => exact ⟨k + 1, q + x, by go_num, by go_num, by omega, HQ1⟩
          case measure => simp only [intOf]; omega
        · have hke : k = m := by omega
          subst hke
          go_wp2_with fail
          go_ret2
          exact ⟨congrArg (fun z => Ending.returned (.tuple #[.int .i64 z, .bool true])) HQ.out, HB1.out⟩
set_option maxHeartbeats 4000000 in
theorem sfc_w {a b : Option Addr} {n m c d : Nat} {C : List (List Int)} {os : List Int} {w : World} (hn : C.length = n) (hm : os.length = m) (hn1 : n ≤ 1048576) (hd : m ≤ d) (h : CRow w a C) (ho : ARow w b os) :
    Calls Try.prog 23 #[.slice a n c, .slice b m d] w fun e w' => e = .returned (.tuple #[.int .i64 (Hu.fcI C os), .bool (Hu.fcB C os)]) ∧ w' = w := by
  have HN := hide hn
  have HM := hide hm
  have H := hide h
  have HO := hide ho
  cases hg : Hu.costB C
  · have HG := hide hg
    have e1 : Hu.fcB C os = false := by simp [Hu.fcB, hg]
    have e2 : Hu.fcI C os = 0 := by simp [Hu.fcI, e1]
    rw [e1, e2]
    clear h ho hn hm hg e1 e2
    go_enter Try.func23, Try.ntmps23
    go_wp2_with fail
    refine (sgc_eq HN hn1 H HG).mono ?_
    rintro e w1 ⟨rfl, hw1⟩
    obtain rfl : w = w1 := hw1.symm
    go_wp2_with fail
    go_ret2
    exact ⟨rfl, rfl⟩
  · have hl := Hu.costB_len hg
    rw [hn] at hl
    have h10 := hl.2
    cases hod : Od.ordB os n
    · have HG := hide hg
      have HOD := hide hod
      have e1 : Hu.fcB C os = false := by simp [Hu.fcB, hg, hn, hod]
      have e2 : Hu.fcI C os = 0 := by simp [Hu.fcI, e1]
      rw [e1, e2]
      clear h ho hn hm hg e1 e2 hod hl
      go_enter Try.func23, Try.ntmps23
      go_wp2_with fail
      refine (sgc_eq HN hn1 H HG).mono ?_
      rintro e w1 ⟨rfl, hw1⟩
      obtain rfl : w = w1 := hw1.symm
      go_wp2_with fail
      refine (seo_eq HM h10 hd HO HOD).mono ?_
      rintro e w1 ⟨rfl, hw1⟩
      obtain rfl : w = w1 := hw1.symm
      go_wp2_with fail
      go_ret2
      exact ⟨rfl, rfl⟩
    · have HG := hide hg
      have HOD := hide hod
      have e1 : Hu.fcB C os = true := by simp [Hu.fcB, hg, hn, hod]
      have e2 : Hu.fcI C os = Hu.costTo C os n := by simp [Hu.fcI, e1, hn]
      rw [e1, e2]
      have hmn : m = n := by rw [← hm]; exact (Od.ordB_iff.1 hod).1
      subst hmn
      have HCT := hide fun (k : Nat) (hk : k ≤ m) => fit9_bd hg (by rw [hn]; exact hod) k (by rw [hn]; exact hk)
      have HZ : Hid (Hu.costTo C os 0 = 0) := hide rfl
      have HSU := hide fun (k : Nat) => (show Hu.costTo C os (k + 1) = Hu.costTo C os k + Hu.ct C k (Od.nth os k) from rfl)
      have HCL := hide fun (i : Nat) (hi : i < m) => (Hu.costB_row hg (show i < C.length by rw [hn]; exact hi)).1.trans hn
      have HLT := hide fun (i : Nat) (hi : i < m) => Od.nth_lt hod hi
      have HCA := hide fun (i : Nat) (hi : i < m) => ord9_cast hod hi
      clear h ho hn hm hg e1 e2 hod hl
      go_enter Try.func23, Try.ntmps23
      go_wp2_with fail
      refine (sgc_eq HN hn1 H HG).mono ?_
      rintro e w1 ⟨rfl, hw1⟩
      obtain rfl : w = w1 := hw1.symm
      go_wp2_with fail
      refine (seo_eq HM h10 hd HO HOD).mono ?_
      rintro e w1 ⟨rfl, hw1⟩
      obtain rfl : w = w1 := hw1.symm
      go_wp2_with fail
      go_loop [6, 7, 8, 21] (fun s6 _ _ s => ∃ (k : Nat) (q : Int), s6 = .int .i64 q ∧ s = .int .i64 k ∧ k ≤ m ∧ Hid (q = Hu.costTo C os k)) (fun _ _ _ s => m - (intOf s).toNat)
      case atStart => exact ⟨0, 0, rfl, rfl, Nat.zero_le _, hide HZ.out.symm⟩
      case round =>
        obtain ⟨k, q, rfl, rfl, hk, HQ⟩ := hrel
        by_cases hlt : k < m
        · obtain ⟨b1, off, ai, ci, rfl, hb, r1, R1⟩ := H.out.at (i := k) (by rw [HN.out]; exact hlt)
          obtain ⟨b2, off2, rfl, r2⟩ := HO.out.at (i := k) (by rw [HM.out]; exact hlt)
          rw [HCA.out k hlt] at r2
          rw [HCL.out k hlt] at r1
          have hnl := HLT.out k hlt
          obtain ⟨b3, off3, rfl, r3⟩ := R1.at (i := Od.nth os k) (by rw [HCL.out k hlt]; exact hnl)
          have HQ1 : Hid (q + (C.getD k []).getD (Od.nth os k) 0 = Hu.costTo C os (k + 1)) := hide (by rw [HSU.out k, HQ.out]; rfl)
          have c1 := HCT.out k hk
          have c2 := HCT.out (k + 1) (by omega)
          rw [← HQ.out] at c1
          rw [← HQ1.out] at c2
          generalize (C.getD k []).getD (Od.nth os k) 0 = x at *
          generalize Od.nth os k = y at *
          have j0 : (0 : Int) ≤ (k : Int) := by omega
          have j1 : (k : Int) < (m : Int) := by omega
          have y0 : (0 : Int) ≤ (y : Int) := by omega
          have y1 : (y : Int) < (m : Int) := by omega
          clear R1
          go_wp2_with fail
          go_round
          case rel => exact ⟨k + 1, q + x, by go_num, by go_num, by omega, HQ1⟩
          case measure => simp only [intOf]; omega
        · have hke : k = m := by omega
          subst hke
          go_wp2_with fail
          go_ret2
          exact ⟨congrArg (fun z => Ending.returned (.tuple #[.int .i64 z, .bool true])) HQ.out, rfl⟩
end Go.Proofs.Ytcniegaogdggaaa
