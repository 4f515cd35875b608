/-
  What countsFor of the program, l4Share of the model, and both ShareOut answer: counts in memory of their own.
-/
import Derived.Test.YtljccbnkibfimaaSd
import Derived.Test.YtljccbnkibfimaaYf
namespace Go.Proofs.Ytljccbnkibfimaa
open Go.RowKit

theorem infI : (Try.prog.info? 3).map (fun i => (i.zero, i.size, i.bytes)) = some (some (.int .i64 0), 1, 8) := by kernel_rfl
theorem intI_cells (xs : List Int) : ∀ u ∈ ints xs, u.oneCell' = true := by
  intro u hu
  simp only [ints, List.mem_map] at hu
  obtain ⟨x, _, rfl⟩ := hu; rfl
theorem newI_one (w : World) (x : Int) {H : Nat} (hH : w.heap.size = H) : ∀ (j : Nat) (u : Value), (ints [x])[j]? = some u → (w.alloc (.cells #[.int .i64 x] 3)).cell? ((⟨H, 0, none⟩ : Addr).add j) = some u := by
  intro j u hj
  subst hH
  match j, hj with
  | 0, hj => simp [ints] at hj; subst hj; simp [Addr.add]
theorem own_some {w : World} {base e s n : Nat} {v : Value} {xs : List Value} (h : w.ownsRow base e s v n xs) (hn : n ≠ 0) : ∃ g cap, v = .slice (some ⟨g, 0, none⟩) n cap ∧ base ≤ g ∧ g < w.heap.size := by
  rcases h.2 with ⟨_, h0⟩ | ⟨g, cap, cur, hv, hb, hg, _⟩
  · exact absurd h0 hn
  · exact ⟨g, cap, hv, hb, (Array.getElem?_eq_some_iff.1 hg).1⟩
theorem ones_snoc (k : Nat) : ints (List.replicate (k + 1) 1) = ints (List.replicate k 1) ++ ints [1] := by
  rw [List.replicate_succ']; simp [ints]
theorem ones_set (ys : List Int) (k n : Nat) (hy : ys.length = n) (hk : k < n) (h : ys.take k = List.replicate k 1) : (ys.set k 1).take (k + 1) = List.replicate (k + 1) 1 := by
  rw [List.take_add_one, List.take_set_of_le (Nat.le_refl _), h, List.replicate_succ']
  congr 1
  simp [hk, hy]
/-- One more for the kind with the greatest gain, in an owned list. -/
theorem more_own {w : World} {base g n cap : Nat} {fs : List Int} {K : Nat} (hn : fs.length = n) (h0 : 0 < n) (own : w.ownsRow base 3 1 (.slice (some ⟨g, 0, none⟩) n cap) n (ints (Sh.share fs K))) :
    ∃ j x, Sh.next fs (Sh.share fs K) = j ∧ j < n ∧ w.cell? ⟨g, j, none⟩ = some (.int .i64 x) ∧ w.frozen? ⟨g, j, none⟩ = false ∧ x = (Sh.share fs K).getD j 0 ∧
      (w.setCell ⟨g, j, none⟩ (.int .i64 (x + 1))).ownsRow base 3 1 (.slice (some ⟨g, 0, none⟩) n cap) n (ints (Sh.share fs (K + 1))) := by
  have hl := Sh.next_lt (Sh.share fs K) (show 0 < fs.length by omega)
  have hsl := Sh.share_len fs K
  refine ⟨_, _, rfl, by omega, ?_, own.frozenAt _, rfl, ?_⟩
  · rw [own.cellAt _ (by omega), ints_get _ _ (by omega)]
  · obtain ⟨st1, st2⟩ := own.stored (Sh.next fs (Sh.share fs K)) (.int .i64 ((Sh.share fs K).getD (Sh.next fs (Sh.share fs K)) 0 + 1))
    rw [ints_set] at st1
    exact st1

set_option maxRecDepth 100000 in
set_option maxHeartbeats 2000000 in
theorem cf_any {a : Option Addr} {n c K : Nat} {p : Int} {fs : List Int} {w : World} (h : Hid (ARow w a fs)) (hn : Hid (fs.length = n)) (hk : Hid (Sh.kindsB fs p = true)) (hK : (K : Int) = p - n) :
    Calls Try.prog 40 #[.slice a n c, .int .i64 p] w fun e w' => e = .returned (.slice (some ⟨w.heap.size, 0, none⟩) n n) ∧ Below w.heap.size w w' ∧ w.heap.size < w'.heap.size ∧ w'.ownsRow w.heap.size 3 1 (.slice (some ⟨w.heap.size, 0, none⟩) n n) n (ints (Sh.share fs K)) := by
  have hkb := Sh.kindsB_yes hk.out
  have hfl := Sh.flowB_yes hkb.1
  have hnl := hn.out
  have n0 : 0 < n := by omega
  have n8 : n ≤ 8 := by omega
  have p0 : (n : Int) ≤ p := by omega
  have p1 : p ≤ 40 := hkb.2.2
  have HF := hide hkb.1
  have hmk := makeI_run n (by omega)
  have HM := hide (made_own w n (by omega))
  have hpn : wrap64 (p - n) = K := by rw [wrap_id _ (by omega) (by omega)]; omega
  clear hkb hfl hnl
  go_enter Try.func40, Try.ntmps40
  go_wp2_with fail
  go_loopw [6, 12] (fun _ s wr => ∃ (k : Nat) (ys : List Int), s = .int .i64 k ∧ k ≤ n ∧ ys.length = n ∧ Hid (ys.take k = List.replicate k 1) ∧ wr.ownsRow w.heap.size 3 1 (.slice (some ⟨w.heap.size, 0, none⟩) n n) n (ints ys) ∧ Below w.heap.size w wr ∧ w.heap.size < wr.heap.size) (fun _ s _ => n - (intOf s).toNat)
  case atStart => exact ⟨0, List.replicate n 0, rfl, Nat.zero_le _, by simp, hide (by simp), HM.out, (Below.refl _ _).alloc (Nat.le_refl _) _, by simp⟩
  case round =>
    obtain ⟨k, ys, rfl, hk', hy, HT, hown, hB, hz⟩ := hrel
    by_cases hlt : k < n
    · have HSET := hide (ones_set ys k n hy hlt HT.out)
      have i0 : (0 : Int) ≤ (k : Int) := by omega
      have i1 : (k : Int) < (n : Int) := by omega
      have c0 : wr.cell? ⟨w.heap.size, k, none⟩ = some (.int .i64 (ys.getD k 0)) := by rw [hown.cellAt k (by omega), ints_get ys k (by omega)]
      have f0 := hown.frozenAt k
      obtain ⟨st1, st2⟩ := hown.stored k (.int .i64 1)
      rw [ints_set] at st1
      have HST := hide st1
      generalize ys.getD k 0 = y at *
      clear hmk st1 hown st2
      go_wp2_with fail
      go_roundw
      case rel => exact ⟨k + 1, ys.set k 1, by go_num, by omega, by simpa using hy, HSET, HST.out, hB.setCell (Nat.le_refl _) _, by simpa using hz⟩
      case measure => simp only [intOf]; omega
    · have hke : k = n := by omega
      subst hke
      have HS : Hid (ys = Sh.share fs 0) := hide (by have := HT.out; rw [← hy, List.take_length] at this; unfold Sh.share; rw [hn.out]; rw [this, hy])
      have HO := hide hown
      clear hown hmk
      go_wp2_with fail
      go_loopw [23] (fun s wr => ∃ t : Nat, s = .int .i64 t ∧ t ≤ K ∧ Hid (wr.ownsRow w.heap.size 3 1 (.slice (some ⟨w.heap.size, 0, none⟩) k k) k (ints (Sh.share fs t))) ∧ Below w.heap.size w wr ∧ w.heap.size < wr.heap.size) (fun s _ => K - (intOf s).toNat)
      case atStart => exact ⟨0, rfl, Nat.zero_le _, hide (by rw [← HS.out]; exact HO.out), hB, hz⟩
      case round =>
        obtain ⟨t, rfl, ht, HOW, hB, hz⟩ := hrel
        by_cases hlt : t < K
        · have HSS := hide (Sh.share_shared HF.out t (by rw [hn.out]; omega))
          have HCL : Hid ((Sh.share fs t).length = k) := hide (by rw [Sh.share_len]; exact hn.out)
          have hgg := hide (gg_any (c := c) (d := k) (hide (h.out.below hB)) hn (hide (arow_owns HCL.out.symm HOW.out)) HSS)
          have ho1 := fun (w1 : World) (hb : Below wr.heap.size wr w1) => more_own hn.out n0 (own_below HOW.out hb)
          have HO1 := hide ho1
          have hxb : Hid (∀ j, j < k → 1 ≤ (Sh.share fs t).getD j 0 ∧ (Sh.share fs t).getD j 0 ≤ 40) := hide fun j hj => Sh.sharedB_at HSS.out (by rw [hn.out]; exact hj)
          clear ho1
          generalize hj : Sh.next fs (Sh.share fs t) = j0 at hgg
          have HJ := hide hj
          clear hj
          go_wp2_with (go_at_call 53; refine hgg.out.mono ?_; rintro e w1 ⟨rfl, hb1⟩; obtain ⟨j, x, hj, hjn, hcx, hfx, hxx, hst⟩ := HO1.out w1 hb1; rw [HJ.out] at hj; subst hj; have hx1 := hxb.out j0 hjn; rw [← hxx] at hx1; obtain ⟨x0, x1⟩ := hx1; have HST := hide hst; have hjj : (j0 : Int) < (k : Int) := (by omega); have hjz : (0 : Int) ≤ (j0 : Int) := (by omega); clear hxx hst)
          go_roundw
          case rel => exact ⟨t + 1, by go_num, by omega, HST, (hB.trans (hb1.mono hB.size)).setCell (Nat.le_refl _) _, by simp; exact Nat.lt_of_lt_of_le hz hb1.size⟩
          case measure => simp only [intOf]; omega
        · have hte : t = K := by omega
          subst hte
          go_wp2_with fail
          go_ret
          exact ⟨rfl, hB, hz, HOW.out⟩
set_option maxRecDepth 100000 in
set_option maxHeartbeats 2000000 in
theorem scf_any {a : Option Addr} {n c K : Nat} {p : Int} {fs : List Int} {w : World} (h : Hid (ARow w a fs)) (hn : Hid (fs.length = n)) (hk : Hid (Sh.kindsB fs p = true)) (hK : (K : Int) = p - n) :
    Calls Try.prog 42 #[.slice a n c, .int .i64 p] w fun e w' => ∃ v, e = .returned v ∧ Below w.heap.size w w' ∧ w'.ownsRow w.heap.size 3 1 v n (ints (Sh.share fs K)) := by
  obtain ⟨i0, hi, hz0, hz1, hz2⟩ := info_parts infI
  have hkb := Sh.kindsB_yes hk.out
  have hfl := Sh.flowB_yes hkb.1
  have hnl := hn.out
  have n0 : 0 < n := by omega
  have n8 : n ≤ 8 := by omega
  have p0 : (n : Int) ≤ p := by omega
  have p1 : p ≤ 40 := hkb.2.2
  have HF := hide hkb.1
  clear hkb hfl hnl
  go_enter Try.func42, Try.ntmps42
  go_wp2_with fail
  go_loopw [5, 9] (fun v s wr => ∃ k : Nat, s = .int .i64 k ∧ k ≤ n ∧ wr.ownsRow w.heap.size 3 1 v k (ints (List.replicate k 1)) ∧ Below w.heap.size w wr) (fun _ s _ => n - (intOf s).toNat)
  case atStart => exact ⟨0, rfl, Nat.zero_le _, World.ownsRow_nil _ _ _ _, Below.refl _ _⟩
  case round =>
    obtain ⟨k, rfl, hk', hown, hB⟩ := hrel
    have hs2 := hB.size
    by_cases hlt : k < n
    · go_wp2_with (first
        | (at_builtin; refine wpList_append_own _ rfl _ _ 23 rfl w.heap.size 3 i0 (.int .i64 0) 1 8 Try.underlying23 hi hz0 hz1 hz2 rfl (by decide) _ _ _ rfl (hown.alloc _) ⟨wr.heap.size, 0, none⟩ 1 1 (ints [1]) rfl rfl (newI_one _ _ rfl) (intI_cells _) (by unfold maxLen; omega) (by omega) (by simp; omega) ?_))
      intro v' w4 hown' hgrow _
      have hfin := own_grow hown hgrow (Nat.le_refl _) hs2
      rw [← ones_snoc] at hown'
      go_wp2_with fail
      go_roundw
      case rel => exact ⟨k + 1, by go_num, by omega, hown', hB.trans hfin⟩
      case measure => simp only [intOf]; omega
    · have hke : k = n := by omega
      subst hke
      obtain ⟨g, cap, rfl, hg0, hgl⟩ := own_some hown (by omega)
      have HO := hide hown
      clear hown
      go_wp2_with fail
      go_loopw [6] (fun s wr => ∃ t : Nat, s = .int .i64 ((k : Int) + t) ∧ t ≤ K ∧ Hid (wr.ownsRow w.heap.size 3 1 (.slice (some ⟨g, 0, none⟩) k cap) k (ints (Sh.share fs t))) ∧ Below w.heap.size w wr ∧ g < wr.heap.size) (fun s _ => (p - intOf s).toNat)
      case atStart => exact ⟨0, by simp, Nat.zero_le _, hide (by unfold Sh.share; rw [hn.out]; exact HO.out), hB, hgl⟩
      case round =>
        obtain ⟨t, rfl, ht, HOW, hB, hz⟩ := hrel
        by_cases hlt : (k : Int) + t < p
        · have HSS := hide (Sh.share_shared HF.out t (by rw [hn.out]; omega))
          have HCL : Hid ((Sh.share fs t).length = k) := hide (by rw [Sh.share_len]; exact hn.out)
          have hgg := hide (snext_any (c := c) (d := cap) (hide (h.out.below hB)) hn (hide (arow_owns HCL.out.symm HOW.out)) HSS)
          have ho1 := fun (w1 : World) (hb : Below wr.heap.size wr w1) => more_own hn.out n0 (own_below HOW.out hb)
          have HO1 := hide ho1
          have hxb : Hid (∀ j, j < k → 1 ≤ (Sh.share fs t).getD j 0 ∧ (Sh.share fs t).getD j 0 ≤ 40) := hide fun j hj => Sh.sharedB_at HSS.out (by rw [hn.out]; exact hj)
          clear ho1
          generalize hj : Sh.next fs (Sh.share fs t) = j0 at hgg
          have HJ := hide hj
          clear hj
          go_wp2_with (go_at_call 62; refine hgg.out.mono ?_; rintro e w1 ⟨rfl, hb1⟩; obtain ⟨j, x, hj, hjn, hcx, hfx, hxx, hst⟩ := HO1.out w1 hb1; rw [HJ.out] at hj; subst hj; have hx1 := hxb.out j0 hjn; rw [← hxx] at hx1; obtain ⟨x0, x1⟩ := hx1; have HST := hide hst; have hjj : (j0 : Int) < (k : Int) := (by omega); have hjz : (0 : Int) ≤ (j0 : Int) := (by omega); clear hxx hst)
          go_roundw
          case rel => exact ⟨t + 1, by go_num, by omega, HST, (hB.trans (hb1.mono hB.size)).setCell hg0 _, by simp; exact Nat.lt_of_lt_of_le hz hb1.size⟩
          case measure => simp only [intOf]; omega
        · have hte : t = K := by omega
          subst hte
          go_wp2_with fail
          go_ret
          exact ⟨_, rfl, hB, HOW.out⟩
def shareL (fs : List Int) (p : Int) : List Int := Sh.share fs (p - fs.length).toNat
theorem shareL_of {fs : List Int} {n K : Nat} {p : Int} (hn : Hid (fs.length = n)) (hK : (K : Int) = p - n) : Sh.share fs K = shareL fs p := by
  unfold shareL; rw [hn.out, ← hK]; rfl
theorem shareL_len (fs : List Int) (p : Int) : (shareL fs p).length = fs.length := Sh.share_len _ _
set_option maxRecDepth 100000 in
set_option maxHeartbeats 1000000 in
theorem so_no {a : Option Addr} {n c : Nat} {p : Int} {fs : List Int} {w : World} (h : Hid (ARow w a fs)) (hn : Hid (fs.length = n)) (hk : Hid (Sh.kindsB fs p = false)) :
    Calls Try.prog 7 #[.slice a n c, .int .i64 p] w fun e w' => e = .returned (.tuple #[.slice none 0 0, .bool false]) ∧ Below w.heap.size w w' := by
  go_enter Try.func7, Try.ntmps7
  go_wp2_with (go_at_call 12; refine (kinds_eq h hn hk).mono ?_; rintro e w1 ⟨rfl, rfl⟩)
  go_ret2
  exact ⟨rfl, Below.refl _ _⟩
set_option maxRecDepth 100000 in
set_option maxHeartbeats 1000000 in
theorem so_yes {a : Option Addr} {n c : Nat} {p : Int} {fs : List Int} {w : World} (h : Hid (ARow w a fs)) (hn : Hid (fs.length = n)) (hk : Hid (Sh.kindsB fs p = true)) :
    Calls Try.prog 7 #[.slice a n c, .int .i64 p] w fun e w' => ∃ g, e = .returned (.tuple #[.slice (some ⟨g, 0, none⟩) n n, .bool true]) ∧ Below w.heap.size w w' ∧ w'.ownsRow w.heap.size 3 1 (.slice (some ⟨g, 0, none⟩) n n) n (ints (shareL fs p)) := by
  obtain ⟨K, hK⟩ : ∃ K : Nat, (K : Int) = p - n := ⟨(p - n).toNat, by have := Sh.kindsB_yes hk.out; have := hn.out; omega⟩
  have HE := hide (shareL_of hn hK)
  go_enter Try.func7, Try.ntmps7
  go_wp2_with (first
    | (go_at_call 12; refine (kinds_eq h hn hk).mono ?_; rintro e w1 ⟨rfl, rfl⟩)
    | (go_at_call 40; refine (cf_any h hn hk hK).mono ?_; rintro e w1 ⟨rfl, hb1, hz1, own1⟩; rw [HE.out] at own1))
  go_ret2
  exact ⟨_, rfl, hb1, own1⟩
set_option maxRecDepth 100000 in
set_option maxHeartbeats 1000000 in
theorem sso_no {a : Option Addr} {n c : Nat} {p : Int} {fs : List Int} {w : World} (h : Hid (ARow w a fs)) (hn : Hid (fs.length = n)) (hk : Hid (Sh.kindsB fs p = false)) :
    Calls Try.prog 8 #[.slice a n c, .int .i64 p] w fun e w' => e = .returned (.tuple #[.slice none 0 0, .bool false]) ∧ Below w.heap.size w w' := by
  go_enter Try.func8, Try.ntmps8
  go_wp2_with (go_at_call 41; refine (skinds_eq h hn hk).mono ?_; rintro e w1 ⟨rfl, rfl⟩)
  go_ret2
  exact ⟨rfl, Below.refl _ _⟩
set_option maxRecDepth 100000 in
set_option maxHeartbeats 1000000 in
theorem sso_yes {a : Option Addr} {n c : Nat} {p : Int} {fs : List Int} {w : World} (h : Hid (ARow w a fs)) (hn : Hid (fs.length = n)) (hk : Hid (Sh.kindsB fs p = true)) :
    Calls Try.prog 8 #[.slice a n c, .int .i64 p] w fun e w' => ∃ v, e = .returned (.tuple #[v, .bool true]) ∧ Below w.heap.size w w' ∧ w'.ownsRow w.heap.size 3 1 v n (ints (shareL fs p)) := by
  obtain ⟨K, hK⟩ : ∃ K : Nat, (K : Int) = p - n := ⟨(p - n).toNat, by have := Sh.kindsB_yes hk.out; have := hn.out; omega⟩
  have HE := hide (shareL_of hn hK)
  go_enter Try.func8, Try.ntmps8
  go_wp2_with (first
    | (go_at_call 41; refine (skinds_eq h hn hk).mono ?_; rintro e w1 ⟨rfl, rfl⟩)
    | (go_at_call 42; refine (scf_any h hn hk hK).mono ?_; rintro e w1 ⟨v, rfl, hb1, own1⟩; rw [HE.out] at own1))
  go_ret2
  exact ⟨_, rfl, hb1, own1⟩
end Go.Proofs.Ytljccbnkibfimaa
