/-
  The law on roots: its own walk, out of what the functions answer.
-/
import Derived.Test.YtdmdhmcnedmnbaaZc
import Derived.Test.YtdmdhmcnedmnbaaXo
import Derived.Test.YtdmdhmcnedmnbaaXh
import Derived.Test.YtdmdhmcnedmnbaaYg
import Derived.Test.YtdmdhmcnedmnbaaRf
import Derived.Deep.DeepCutAuto
import Derived.BigQuiet
namespace Go.Proofs.Ytdmdhmcnedmnbaa
open Go.RowKit

def rtV (n : Int) : Int := if Rt.sqB n = true then Rt.rt n else 0
def sqV (n : Int) : Bool := if Rt.sqB n = true then (Rt.rt n * Rt.rt n == n) else false
theorem rootOf_v (n : Int) (w : World) : Calls Try.prog 18 #[.int .i64 n] w fun e w' => e = .returned (.tuple #[.int .i64 (rtV n), .bool (Rt.sqB n)]) ∧ w' = w := by
  unfold rtV
  cases h : Rt.sqB n
  · exact rootOf_no h
  · exact rootOf_yes h
theorem srootOf_v (n : Int) (w : World) : Calls Try.prog 19 #[.int .i64 n] w fun e w' => e = .returned (.tuple #[.int .i64 (rtV n), .bool (Rt.sqB n)]) ∧ w' = w := by
  unfold rtV
  cases h : Rt.sqB n
  · exact srootOf_no h
  · exact srootOf_yes h
theorem isSq_v (n : Int) (w : World) : Calls Try.prog 20 #[.int .i64 n] w fun e w' => e = .returned (.tuple #[.bool (sqV n), .bool (Rt.sqB n)]) ∧ w' = w := by
  unfold sqV
  cases h : Rt.sqB n
  · exact isSq_no h
  · exact isSq_yes h
theorem sisSq_v (n : Int) (w : World) : Calls Try.prog 21 #[.int .i64 n] w fun e w' => e = .returned (.tuple #[.bool (sqV n), .bool (Rt.sqB n)]) ∧ w' = w := by
  unfold sqV
  cases h : Rt.sqB n
  · exact sisSq_no h
  · exact sisSq_yes h

theorem rt_walk (n : Int) (h : Rt.sqB n = true) : ¬ n < wrap64 (rtV n * rtV n) ∧ ¬ wrap64 (wrap64 (rtV n + 1) * wrap64 (rtV n + 1)) ≤ n ∧ (sqV n != (wrap64 (rtV n * rtV n) == n)) = false := by
  unfold rtV sqV
  simp only [h, if_true]
  obtain ⟨b0, b1⟩ := sqB_bd h
  obtain ⟨c0, c1⟩ := Rt.rt_bd b0 b1
  obtain ⟨a0, a1, a2⟩ := Rt.rt_spec n b0
  obtain ⟨s0, s1⟩ := Rt.sq_bd c0 c1
  obtain ⟨t0, t1⟩ := Rt.sq_bd (show 0 ≤ Rt.rt n + 1 by omega) (show Rt.rt n + 1 ≤ 1000001 by omega)
  rw [wrap_id (Rt.rt n * Rt.rt n) (by omega) (by omega), wrap_id (Rt.rt n + 1) (by omega) (by omega), wrap_id ((Rt.rt n + 1) * (Rt.rt n + 1)) (by omega) (by omega)]
  exact ⟨by omega, by omega, by simp⟩

def hB (m : Int) : Bool := Rt.sqB m && decide (1 ≤ m)
/-- What HeronSteps hands out: nothing, or the steps, in memory. -/
def HRow (w : World) (m : Int) (v : Value) : Prop :=
  (hB m = false ∧ v = .slice none 0 0) ∨ (hB m = true ∧ ∃ g cap, v = .slice (some ⟨g, 0, none⟩) (Rt.from_ m m).length cap ∧ Lies w g (Rt.from_ m m))
theorem HRow.below {w w' : World} {m : Int} {v : Value} (h : HRow w m v) (hb : Below w.heap.size w w') : HRow w' m v := by
  rcases h with h | ⟨h1, g, cap, h2, h3⟩
  · exact Or.inl h
  · exact Or.inr ⟨h1, g, cap, h2, h3.below hb⟩
theorem lies_owns {w : World} {base e : Nat} {v : Value} {xs : List Int} (h : w.ownsRow base e 1 v xs.length (ints xs)) (hl : 1 ≤ xs.length) : ∃ g cap, v = .slice (some ⟨g, 0, none⟩) xs.length cap ∧ Lies w g xs := by
  rcases h.2 with ⟨hv, hn⟩ | ⟨g, cap, cur, hv, hb, hg, r⟩
  · omega
  · subst hv
    refine ⟨g, cap, rfl, (Array.getElem?_eq_some_iff.1 hg).1, fun i hi => ?_⟩
    rw [Nat.zero_add, h.cellAt i (by simpa using hi), ints_get xs i hi]
theorem hB_yes {m : Int} (h : hB m = true) : Rt.sqB m = true ∧ 1 ≤ m ∧ m ≤ 1000000000000 := by
  unfold hB at h
  simp only [Bool.and_eq_true, decide_eq_true_eq] at h
  exact ⟨h.1, h.2, (sqB_bd h.1).2⟩
theorem hB_no {m : Int} (h : hB m = false) : Rt.sqB m = false ∨ m = 0 := by
  cases hs : Rt.sqB m
  · exact Or.inl rfl
  · have := sqB_bd hs
    unfold hB at h
    rw [hs] at h
    simp at h
    exact Or.inr (by omega)
theorem heron_v (m : Int) (w : World) : Calls Try.prog 23 #[.int .i64 m] w fun e w' => ∃ v, e = .returned (.tuple #[v, .bool (hB m)]) ∧ Below w.heap.size w w' ∧ HRow w' m v := by
  cases h : hB m
  · rcases hB_no h with h' | rfl
    · exact (heron_no h').mono fun e w' ⟨he, hw⟩ => ⟨_, he, hw ▸ Below.refl _ _, Or.inl ⟨h, rfl⟩⟩
    · exact heron_zero.mono fun e w' ⟨he, hw⟩ => ⟨_, he, hw ▸ Below.refl _ _, Or.inl ⟨h, rfl⟩⟩
  · obtain ⟨h1, h2, h3⟩ := hB_yes h
    exact (heron_yes h1 h2).mono fun e w' ⟨v, he, hb, ho⟩ => ⟨v, he, hb, Or.inr ⟨h, lies_owns ho (Rt.from_len (by omega) h3).1⟩⟩
theorem sheron_v (m : Int) (w : World) : Calls Try.prog 24 #[.int .i64 m] w fun e w' => ∃ v, e = .returned (.tuple #[v, .bool (hB m)]) ∧ Below w.heap.size w w' ∧ HRow w' m v := by
  cases h : hB m
  · rcases hB_no h with h' | rfl
    · exact (sheron_no h').mono fun e w' ⟨he, hw⟩ => ⟨_, he, hw ▸ Below.refl _ _, Or.inl ⟨h, rfl⟩⟩
    · exact sheron_zero.mono fun e w' ⟨he, hw⟩ => ⟨_, he, hw ▸ Below.refl _ _, Or.inl ⟨h, rfl⟩⟩
  · obtain ⟨h1, h2, h3⟩ := hB_yes h
    exact (sheron_yes h1 h2).mono fun e w' ⟨v, he, hb, ho⟩ => ⟨v, he, hb, Or.inr ⟨h, lies_owns ho (Rt.from_len (by omega) h3).1⟩⟩
theorem same_v {m : Int} {v v' : Value} {w : World} (h : HRow w m v) (h' : HRow w m v') : Calls Try.prog 25 #[v, v'] w fun e w' => e = .returned (.bool true) ∧ Below w.heap.size w w' := by
  rcases h with ⟨h1, rfl⟩ | ⟨h1, g, cap, rfl, h3⟩
  · rcases h' with ⟨_, rfl⟩ | ⟨h2, _⟩
    · exact (same_zero none none 0 0 w).mono fun e w' ⟨he, hw⟩ => ⟨he, hw ▸ Below.refl _ _⟩
    · rw [h1] at h2; cases h2
  · rcases h' with ⟨h2, _⟩ | ⟨_, g', cap', rfl, h4⟩
    · rw [h1] at h2; cases h2
    · obtain ⟨b1, b2, b3⟩ := hB_yes h1
      have := (Rt.from_len (n := m) (x := m) (by omega) b3).2
      exact (same_any (Rt.from_ m m) g 0 cap g' 0 cap' w (by omega) h3.2 h4.2).mono fun e w' ⟨he, k, hw⟩ => ⟨he, hw ▸ below_drewN (Below.refl _ _) _⟩

theorem HRow.no {w : World} {m : Int} {v : Value} (h : HRow w m v) (hb : hB m = false) : v = .slice none 0 0 := by
  rcases h with ⟨_, h⟩ | ⟨h, _⟩
  · exact h
  · rw [hb] at h; cases h
theorem HRow.yes {w : World} {m : Int} {v : Value} (h : HRow w m v) (hb : hB m = true) : ∃ g cap, v = .slice (some ⟨g, 0, none⟩) (Rt.from_ m m).length cap ∧ Lies w g (Rt.from_ m m) := by
  rcases h with ⟨h, _⟩ | ⟨_, h⟩
  · rw [hb] at h; cases h
  · exact h
theorem last_of (k N : Nat) (h : k + 1 = N) (hm : N ≤ 4000000000000) : (0 : Int) ≤ (k : Int) ∧ (k : Int) < (N : Int) ∧ wrap64 ((N : Int) - 1) = (k : Int) ∧ IntKind.i64.wrap ((N : Int) - 1) = (k : Int) := by
  subst h
  have e : (((k + 1 : Nat) : Int) - 1) = (k : Int) := by omega
  rw [e]
  refine ⟨by omega, by omega, wrap_id _ (by omega) (by omega), ?_⟩
  unfold IntKind.wrap
  simp only [IntKind.bits, IntKind.signed]
  first | omega | (simp; omega)

theorem lies_own {w : World} {base e g c : Nat} {xs : List Int} (h : w.ownsRow base e 1 (.slice (some ⟨g, 0, none⟩) xs.length c) xs.length (ints xs)) : Lies w g xs := by
  refine ⟨(h.lt g rfl).2, fun i hi => ?_⟩
  rw [Nat.zero_add, h.cellAt i (by simpa using hi), ints_get xs i hi]
theorem two_bd (a b c d : Int) : -1 ≤ Sq.two a b c d ∧ Sq.two a b c d ≤ 1 := by
  unfold Sq.two
  split
  · unfold Sq.sign; split <;> (try split) <;> omega
  · split
    · exact mixed_bd _ _
    · have := mixed_bd ((a + b - c - d) * (a + b - c - d) + 4 * c * d - 4 * a * b) (4 * (a + b - c - d) * (a + b - c - d) * (4 * c * d))
      omega
theorem cmp_anti (xs ys : List Int) (h : cmpB xs ys = true) : cmpB ys xs = true ∧ cmpN ys xs = - cmpN xs ys ∧ wrap64 (- cmpN xs ys) = - cmpN xs ys := by
  have h' : cmpB ys xs = true := by unfold cmpB at h ⊢; rw [Bool.and_comm]; exact h
  unfold cmpN
  rw [if_pos h, if_pos h']
  refine ⟨h', Sq.two_anti _ _ _ _, ?_⟩
  have := two_bd (xs.getD 0 0) (xs.getD 1 0) (ys.getD 0 0) (ys.getD 1 0)
  exact wrap_id _ (by omega) (by omega)

set_option maxRecDepth 100000 in
set_option maxHeartbeats 400000 in
theorem lRoots_long (a1 a2 : Option Addr) (len1 cap1 len2 cap2 : Nat) (w : World) (h : (1048576 : Int) < wrap64 ((len1 : Int) + (len2 : Int))) :
    Calls Try.prog 4 #[.slice a1 len1 cap1, .slice a2 len2 cap2] w fun e w' => e = .returned (.bool true) ∧ Below w.heap.size w w' := by
  go_enter Try.func4, Try.ntmps4
  go_wp2_with fail
  go_ret
  exact ⟨rfl, Below.refl _ _⟩

set_option maxRecDepth 100000 in
set_option maxHeartbeats 2000000 in
theorem lRoots_short (a1 a2 : Option Addr) (len1 cap1 len2 cap2 : Nat) (w : World) (h : ¬ (1048576 : Int) < wrap64 ((len1 : Int) + (len2 : Int))) (hs1 : Src w a1 len1) (hs2 : Src w a2 len2) :
    Calls Try.prog 4 #[.slice a1 len1 cap1, .slice a2 len2 cap2] w fun e w' => e = .returned (.bool true) ∧ Below w.heap.size w w' := by
  have HS1 := hide hs1
  have HS2 := hide hs2
  clear hs1 hs2
  go_enter Try.func4, Try.ntmps4
  go_wp2_with fail
  refine (drawRoot_any a1 len1 cap1 _ HS1.out).mono ?_
  rintro e w1 ⟨n, rfl, hb1⟩
  have q1 : (Rt.sqB n != Rt.sqB n) = false := by simp
  have q2 : (rtV n != rtV n) = false := by simp
  have q3 : (sqV n != sqV n) = false := by simp
  go_wp2_with fail
  refine (rootOf_v n _).mono ?_
  rintro e w2 ⟨rfl, hw⟩
  obtain rfl : w1 = w2 := hw.symm
  clear hw
  go_wp2_with fail
  refine (srootOf_v n _).mono ?_
  rintro e w2 ⟨rfl, hw⟩
  obtain rfl : w1 = w2 := hw.symm
  clear hw
  go_wp2_with fail
  refine (isSq_v n _).mono ?_
  rintro e w2 ⟨rfl, hw⟩
  obtain rfl : w1 = w2 := hw.symm
  clear hw
  go_wp2_with fail
  refine (sisSq_v n _).mono ?_
  rintro e w2 ⟨rfl, hw⟩
  obtain rfl : w1 = w2 := hw.symm
  clear hw
  go_upto_region 10 with fail
  go_cut [4, 6, 7, 8, 9, 10, 11, 12, 13, 105] (fun s4 _ _ _ _ _ _ _ _ s105 wc => s4 = .bool false ∧ s105 = .bool false ∧ Below w.heap.size w wc)
  case first =>
    cases hsq : Rt.sqB n
    · go_wp2_with fail
      go_meet
      case rel => exact ⟨rfl, rfl, hb1⟩
    · obtain ⟨f1, f2, f3⟩ := rt_walk n hsq
      generalize rtV n = r at *
      generalize sqV n = s at *
      have HF3 := hide f3
      go_wp2_with fail
      go_meet
      case rel => exact ⟨rfl, congrArg Value.bool HF3.out, hb1⟩
  case rest =>
    obtain ⟨rfl, rfl, hBc⟩ := hcut
    clear hb1 q1 q2 q3
    go_wp2_with fail
    refine (drawHeron_any a2 len2 cap2 _ (HS2.out.below hBc)).mono ?_
    rintro e w3 ⟨m, rfl, hb3⟩
    have hB3 : Below w.heap.size w w3 := hBc.trans (hb3.mono hBc.size)
    have q4 : (hB m != hB m) = false := by simp
    clear hb3 hBc
    go_wp2_with fail
    refine (heron_v m _).mono ?_
    rintro e w4 ⟨v, rfl, hb4, hr4⟩
    have hB4 : Below w.heap.size w w4 := hB3.trans (hb4.mono hB3.size)
    have HR4 := hide hr4
    clear hb4 hr4 hB3
    go_wp2_with fail
    refine (sheron_v m _).mono ?_
    rintro e w5 ⟨v', rfl, hb5, hr5⟩
    have hB5 : Below w.heap.size w w5 := hB4.trans (hb5.mono hB4.size)
    have HR5 := hide hr5
    have HR4' := hide (HR4.out.below hb5)
    clear hb5 hr5 hB4 HR4
    go_wp2_with fail
    refine (same_v HR4'.out HR5.out).mono ?_
    rintro e w6 ⟨rfl, hb6⟩
    have hB6 : Below w.heap.size w w6 := hB5.trans (hb6.mono hB5.size)
    have HR6 := hide (HR4'.out.below hb6)
    clear hb6 hB5 HR4' HR5
    go_upto_if 127 with fail
    go_cut [4, 15, 16, 17, 18, 19, 20, 21] (fun s4 _ _ _ _ _ _ _ wc => s4 = .bool false ∧ Below w.heap.size w wc)
    case first =>
      cases hb : hB m
      · have hv := HR6.out.no hb
        subst hv
        go_wp2_with fail
        go_meet
        case rel => exact ⟨rfl, hB6⟩
      · obtain ⟨g, cap, hv, hg, hc⟩ := HR6.out.yes hb
        subst hv
        obtain ⟨b1, b2, b3⟩ := hB_yes hb
        obtain ⟨f0, f1, f2⟩ := Rt.from_facts b2
        obtain ⟨l0, l1⟩ := Rt.from_len (n := m) (x := m) (by omega) b3
        have c0 := hc 0 l0
        have c1 := hc ((Rt.from_ m m).length - 1) (by omega)
        rw [f0] at c0
        rw [f2] at c1
        obtain ⟨N, hN⟩ : ∃ N, (Rt.from_ m m).length = N := ⟨_, rfl⟩
        obtain ⟨k, hk⟩ : ∃ k, k + 1 = N := ⟨N - 1, by omega⟩
        rw [hN] at c1 l0 l1 ⊢
        have ek : N - 1 = k := by omega
        rw [ek, Nat.zero_add] at c1
        rw [Nat.zero_add] at c0
        obtain ⟨j0, j1, j2, j3⟩ := last_of k N hk (by omega)
        have n0 : ((N : Int) == 0) = false := by simp; omega
        have n1 : (0 : Int) < (N : Int) := by omega
        have n2 : (m != m) = false := by simp
        have n3 : (Rt.rt m != Rt.rt m) = false := by simp
        have HC := hide hc
        have HF1 := hide f1
        have HN := hide hN
        have HB1 := hide b1
        clear hc f1 hN f0 f2 ek hk b1 HR6
        go_wp2_with fail
        refine (rootOf_yes HB1.out).mono ?_
        rintro e w7 ⟨rfl, hw⟩
        obtain rfl : w6 = w7 := hw.symm
        clear hw
        go_wp2_with fail
        go_loopw [4, 21] (fun s4 s wr => s4 = .bool false ∧ ∃ i : Nat, s = .int .i64 i ∧ 1 ≤ i ∧ i ≤ N ∧ ∃ j, wr = w6.drewN j) (fun _ s _ => N - (intOf s).toNat)
        case atStart => exact ⟨rfl, 1, rfl, Nat.le_refl _, l0, 0, rfl⟩
        case round =>
          obtain ⟨rfl, i, rfl, hi1, hi2, j, rfl⟩ := hrel
          by_cases hlt : i < N
          · obtain ⟨p, hp⟩ : ∃ p, p + 1 = i := ⟨i - 1, by omega⟩
            obtain ⟨i0, i1, i2, i3⟩ := last_of p i hp (by omega)
            have r1 := HC.out i (by rw [HN.out]; exact hlt)
            have r2 := HC.out p (by rw [HN.out]; omega)
            have hf := HF1.out p (by rw [HN.out]; omega)
            rw [hp] at hf
            rw [Nat.zero_add] at r1 r2
            have i4 : (p : Int) < (N : Int) := by omega
            have i5 : (i : Int) < (N : Int) := by omega
            have i6 : (0 : Int) ≤ (i : Int) := by omega
            obtain ⟨hf1, hf2⟩ := hf
            generalize (Rt.from_ m m).getD i 0 = x at *
            generalize (Rt.from_ m m).getD p 0 = y at *
            have g1 : ¬ y ≤ x := by omega
            have g2 : ¬ x < Rt.rt m := by omega
            have g3 : decide (y ≤ x) = false := decide_eq_false g1
            have g4 : decide (x < Rt.rt m) = false := decide_eq_false g2
            go_wp2_with fail
            go_quiet (fail)
            go_wp2_with fail
            go_roundw
            case rel => exact ⟨rfl, i + 1, by go_num, by omega, by omega, _, rfl⟩
            case measure => simp only [intOf]; omega
          · go_wp2_with fail
            go_meet
            case rel => exact ⟨rfl, below_drewN hB6 _⟩
    case rest =>
      obtain ⟨rfl, hBd⟩ := hcut
      clear HR6 hB6
      go_wp2_with fail
      refine (drawCmp_any a2 len2 cap2 _ (HS2.out.below hBd)).mono ?_
      rintro e w8 ⟨N, s, t, g1, c1, g2, c2, xs, ys, rfl, HT⟩
      have hB8 : Below w.heap.size w w8 := hBd.trans (HT.bel.mono hBd.size)
      have hs := HT.es
      have ht := HT.et
      subst hs ht
      have L1 := hide (lies_own HT.o1)
      have L2 := hide (lies_own HT.o2)
      have q5 : (cmpB xs ys != cmpB xs ys) = false := by simp
      have q6 : (cmpN xs ys != cmpN xs ys) = false := by simp
      clear HT hBd
      go_wp2_with fail
      refine (cr_row L1.out L2.out).1.mono ?_
      rintro e w9 ⟨rfl, hb9⟩
      have hB9 : Below w.heap.size w w9 := hB8.trans (hb9.mono hB8.size)
      have M1 := hide (L1.out.below hb9)
      have M2 := hide (L2.out.below hb9)
      clear hb9 hB8 L1 L2
      go_wp2_with fail
      refine (cr_row M1.out M2.out).2.mono ?_
      rintro e wA ⟨rfl, hbA⟩
      have hBA : Below w.heap.size w wA := hB9.trans (hbA.mono hB9.size)
      have L1 := hide (M1.out.below hbA)
      have L2 := hide (M2.out.below hbA)
      clear hbA hB9 M1 M2
      cases hcb : cmpB xs ys
      · go_wp2_with fail
        go_ret
        exact ⟨rfl, hBA⟩
      · obtain ⟨y1, y2, y3⟩ := cmp_anti xs ys hcb
        have HY := hide (cr_row (c := c2) (d := c1) L2.out L1.out).1
        rw [y1, y2] at HY
        generalize cmpN xs ys = z at *
        have q7 : (-z == -z) = true := by simp
        go_wp2_with fail
        refine HY.out.mono ?_
        rintro e wB ⟨rfl, hbB⟩
        have hBB : Below w.heap.size w wB := hBA.trans (hbB.mono hBA.size)
        clear hbB hBA HY
        go_wp2_with fail
        go_ret
        exact ⟨rfl, hBB⟩
end Go.Proofs.Ytdmdhmcnedmnbaa
