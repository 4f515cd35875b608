/-
  What ShareMore answers, the program's and the model's: lists of counts, all in memory of their own.
-/
import Derived.Test.YtljccbnkibfimaaSn
namespace Go.Proofs.Ytljccbnkibfimaa
open Go.RowKit

def sharesN (fs : List Int) (m : Nat) : List (List Int) := (List.range m).map (Sh.share fs)
theorem sharesN_len (fs : List Int) (m : Nat) : (sharesN fs m).length = m := by simp [sharesN]
theorem sharesN_snoc (fs : List Int) (m : Nat) : sharesN fs (m + 1) = sharesN fs m ++ [Sh.share fs m] := by simp [sharesN, List.range_succ]
theorem sharesN_at (fs : List Int) {m i : Nat} (h : i < m) : (sharesN fs m).getD i [] = Sh.share fs i := by simp [sharesN, h]
theorem infS : (Try.prog.info? 23).map (fun i => (i.zero, i.size, i.bytes)) = some (some (.slice none 0 0), 1, 24) := by kernel_rfl
theorem newS_one (w : World) (v : Value) (t : TypeId) {H : Nat} (hH : w.heap.size = H) : ∀ (j : Nat) (u : Value), ([v] : List Value)[j]? = some u → (w.alloc (.cells #[v] t)).cell? ((⟨H, 0, none⟩ : Addr).add j) = some u := by
  intro j u hj
  subst hH
  match j, hj with
  | 0, hj => simp at hj; subst hj; simp [Addr.add]
theorem rv_cells (n : Nat) (g : Nat × Nat) : ∀ u ∈ ([rv n g] : List Value), u.oneCell' = true := by
  intro u hu
  simp at hu
  subst hu; rfl
theorem kinds_mid {fs : List Int} {p : Int} {n t : Nat} (h : Sh.kindsB fs p = true) (hn : fs.length = n) (ht : (n : Int) + t ≤ p) : Sh.kindsB fs ((n : Int) + t) = true := by
  obtain ⟨h1, h2, h3⟩ := Sh.kindsB_yes h
  simp only [Sh.kindsB, Bool.and_eq_true]
  exact ⟨h1, Pf.inB_of (by omega) (by omega)⟩

set_option maxRecDepth 100000 in
set_option maxHeartbeats 1000000 in
theorem sm_no {a : Option Addr} {n c : Nat} {p : Int} {fs : List Int} {w : World} (h : Hid (ARow w a fs)) (hn : Hid (fs.length = n)) (hk : Hid (Sh.kindsB fs p = false)) :
    Calls Try.prog 9 #[.slice a n c, .int .i64 p] w fun e w' => e = .returned (.tuple #[.slice none 0 0, .bool false]) ∧ Below w.heap.size w w' := by
  go_enter Try.func9, Try.ntmps9
  go_wp2_with (go_at_call 12; refine (kinds_eq h hn hk).mono ?_; rintro e w1 ⟨rfl, rfl⟩)
  go_ret2
  exact ⟨rfl, Below.refl _ _⟩
set_option maxRecDepth 100000 in
set_option maxHeartbeats 2000000 in
theorem sm_yes {a : Option Addr} {n c m : Nat} {p : Int} {fs : List Int} {w : World} (h : Hid (ARow w a fs)) (hn : Hid (fs.length = n)) (hk : Hid (Sh.kindsB fs p = true)) (hm : (m : Int) = p - n + 1) :
    Calls Try.prog 9 #[.slice a n c, .int .i64 p] w fun e w' => ∃ G C gs, e = .returned (.tuple #[.slice (some ⟨G, 0, none⟩) m C, .bool true]) ∧ Below w.heap.size w w' ∧ NOwn w' w.heap.size n m (.slice (some ⟨G, 0, none⟩) m C) gs (sharesN fs m) := by
  obtain ⟨i0, hi, hz0, hz1, hz2⟩ := info_parts infS
  have hkb := Sh.kindsB_yes hk.out
  have hfl := Sh.flowB_yes hkb.1
  have hnl := hn.out
  have n0 : 0 < n := by omega
  have n8 : n ≤ 8 := by omega
  have p0 : (n : Int) ≤ p := by omega
  have p1 : p ≤ 40 := hkb.2.2
  clear hkb hfl hnl
  go_enter Try.func9, Try.ntmps9
  go_wp2_with (first
    | (go_at_call 12; refine (kinds_eq h hn hk).mono ?_; rintro e w1 ⟨rfl, hw⟩; obtain rfl : w = w1 := hw.symm))
  go_loopw [6, 7] (fun v s wr => ∃ (t : Nat) (gs : List (Nat × Nat)), s = .int .i64 ((n : Int) + t) ∧ t ≤ m ∧ (t = m → ∃ G C, v = .slice (some ⟨G, 0, none⟩) m C) ∧ Hid (NOwn wr w.heap.size n t v gs (sharesN fs t)) ∧ Hid (Below w.heap.size w wr)) (fun _ s _ => (p + 1 - intOf s).toNat)
  case atStart => exact ⟨0, [], by simp, Nat.zero_le _, fun h => by omega, hide (NOwn.nil _ _ _), hide (Below.refl _ _)⟩
  case round =>
    obtain ⟨t, gs, rfl, ht, hv, HN, HB⟩ := hrel
    by_cases hlt : (n : Int) + t ≤ p
    · have hKn := hide (kinds_mid hk.out hn.out hlt)
      have hcf := hide (cf_any (c := c) (K := t) (hide (h.out.below HB.out)) hn hKn (by omega))
      have HE := hide (sharesN_snoc fs t)
      have HX : Hid ((Sh.share fs t).length = n) := hide (by rw [Sh.share_len]; exact hn.out)
      have hs2 := HB.out.size
      generalize Sh.share fs t = x at *
      go_wp2_with (first
        | (go_at_call 40; refine hcf.out.mono ?_; rintro e w1 ⟨rfl, hb1, hz1', own1⟩; have HO1 := hide own1; have N1 := HN.out.below hb1; have hs1 := hb1.size; clear own1)
        | (at_builtin; refine wpList_append_lies _ rfl _ _ 28 rfl w.heap.size 23 i0 (.slice none 0 0) 1 24 Try.underlying28 hi hz0 hz1 hz2 rfl (by decide) _ _ _ rfl (N1.2.2.1.alloc _) ⟨w1.heap.size, 0, none⟩ 1 1 [rv n (wr.heap.size, n)] rfl rfl (newS_one _ _ _ rfl) (rv_cells _ _) (by omega) (by unfold maxLen; omega) (by omega) (by simp; omega) (w1.heap.size + 1) (by simp) ?_))
      intro G C w4 own4 hg4 hat4 hlt4
      obtain ⟨N4, B4⟩ := NOwn.snoc HN.out hb1 hs2 HO1.out HX.out own4 hg4 hat4
      rw [← HE.out] at N4
      have HN4 := hide N4
      clear N4 own4 hg4 N1
      go_wp2_with fail
      go_roundw
      case rel => exact ⟨t + 1, gs ++ [(wr.heap.size, n)], by go_num, by omega, fun e => ⟨G, C, by rw [← e]⟩, HN4, hide (HB.out.trans B4)⟩
      case measure => simp only [intOf]; omega
    · have hte : t = m := by omega
      obtain ⟨G, C, rfl⟩ := hv hte
      subst hte
      go_wp2_with fail
      go_ret2
      exact ⟨G, C, rfl, HB.out, gs, HN.out⟩
set_option maxRecDepth 100000 in
set_option maxHeartbeats 1000000 in
theorem ssm_no {a : Option Addr} {n c : Nat} {p : Int} {fs : List Int} {w : World} (h : Hid (ARow w a fs)) (hn : Hid (fs.length = n)) (hk : Hid (Sh.kindsB fs p = false)) :
    Calls Try.prog 10 #[.slice a n c, .int .i64 p] w fun e w' => e = .returned (.tuple #[.slice none 0 0, .bool false]) ∧ Below w.heap.size w w' := by
  go_enter Try.func10, Try.ntmps10
  go_wp2_with (go_at_call 41; refine (skinds_eq h hn hk).mono ?_; rintro e w1 ⟨rfl, rfl⟩)
  go_ret2
  exact ⟨rfl, Below.refl _ _⟩
set_option maxRecDepth 100000 in
set_option maxHeartbeats 2000000 in
theorem ssm_yes {a : Option Addr} {n c m : Nat} {p : Int} {fs : List Int} {w : World} (h : Hid (ARow w a fs)) (hn : Hid (fs.length = n)) (hk : Hid (Sh.kindsB fs p = true)) (hm : (m : Int) = p - n + 1) :
    Calls Try.prog 10 #[.slice a n c, .int .i64 p] w fun e w' => ∃ G C gs, e = .returned (.tuple #[.slice (some ⟨G, 0, none⟩) m C, .bool true]) ∧ Below w.heap.size w w' ∧ NOwn w' w.heap.size n m (.slice (some ⟨G, 0, none⟩) m C) gs (sharesN fs m) := by
  obtain ⟨i0, hi, hz0, hz1, hz2⟩ := info_parts infS
  have hkb := Sh.kindsB_yes hk.out
  have hfl := Sh.flowB_yes hkb.1
  have hnl := hn.out
  have n0 : 0 < n := by omega
  have n8 : n ≤ 8 := by omega
  have p0 : (n : Int) ≤ p := by omega
  have p1 : p ≤ 40 := hkb.2.2
  clear hkb hfl hnl
  go_enter Try.func10, Try.ntmps10
  go_wp2_with (first
    | (go_at_call 41; refine (skinds_eq h hn hk).mono ?_; rintro e w1 ⟨rfl, hw⟩; obtain rfl : w = w1 := hw.symm))
  go_loopw [6, 7] (fun v s wr => ∃ (t : Nat) (gs : List (Nat × Nat)), s = .int .i64 ((n : Int) + t) ∧ t ≤ m ∧ (t = m → ∃ G C, v = .slice (some ⟨G, 0, none⟩) m C) ∧ Hid (NOwn wr w.heap.size n t v gs (sharesN fs t)) ∧ Hid (Below w.heap.size w wr)) (fun _ s _ => (p + 1 - intOf s).toNat)
  case atStart => exact ⟨0, [], by simp, Nat.zero_le _, fun h => by omega, hide (NOwn.nil _ _ _), hide (Below.refl _ _)⟩
  case round =>
    obtain ⟨t, gs, rfl, ht, hv, HN, HB⟩ := hrel
    by_cases hlt : (n : Int) + t ≤ p
    · have hKn := hide (kinds_mid hk.out hn.out hlt)
      have hcf := hide (scf_any (c := c) (K := t) (hide (h.out.below HB.out)) hn hKn (by omega))
      have HE := hide (sharesN_snoc fs t)
      have HX : Hid ((Sh.share fs t).length = n) := hide (by rw [Sh.share_len]; exact hn.out)
      have hs2 := HB.out.size
      generalize Sh.share fs t = x at *
      go_wp2_with (first
        | (go_at_call 42; refine hcf.out.mono ?_; rintro e w1 ⟨v1, rfl, hb1, own1⟩; obtain ⟨g, cap, rfl, _, _⟩ := own_some own1 (by omega); have HO1 := hide own1; have N1 := HN.out.below hb1; have hs1 := hb1.size; clear own1)
        | (at_builtin; refine wpList_append_lies _ rfl _ _ 28 rfl w.heap.size 23 i0 (.slice none 0 0) 1 24 Try.underlying28 hi hz0 hz1 hz2 rfl (by decide) _ _ _ rfl (N1.2.2.1.alloc _) ⟨w1.heap.size, 0, none⟩ 1 1 [rv n (g, cap)] rfl rfl (newS_one _ _ _ rfl) (rv_cells _ _) (by omega) (by unfold maxLen; omega) (by omega) (by simp; omega) (w1.heap.size + 1) (by simp) ?_))
      intro G C w4 own4 hg4 hat4 hlt4
      obtain ⟨N4, B4⟩ := NOwn.snoc HN.out hb1 hs2 HO1.out HX.out own4 hg4 hat4
      rw [← HE.out] at N4
      have HN4 := hide N4
      clear N4 own4 hg4 N1
      go_wp2_with fail
      go_roundw
      case rel => exact ⟨t + 1, gs ++ [(g, cap)], by go_num, by omega, fun e => ⟨G, C, by rw [← e]⟩, HN4, hide (HB.out.trans B4)⟩
      case measure => simp only [intOf]; omega
    · have hte : t = m := by omega
      obtain ⟨G, C, rfl⟩ := hv hte
      subst hte
      go_wp2_with fail
      go_ret2
      exact ⟨G, C, rfl, HB.out, gs, HN.out⟩
end Go.Proofs.Ytljccbnkibfimaa
