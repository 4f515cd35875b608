/-
  Draws of chapter 7: ways of the model's cursor, and the Draw functions over uses, ways and orders.
-/
import Derived.Test.YtljccbnkibfimaaHs
namespace Go.Proofs.Ytljccbnkibfimaa
open Go.RowKit

/-- Two lists apart. -/
def Aprt (v u : Value) : Prop := ∀ b, v.ownBlock = some b → u.ownBlock ≠ some b
theorem aprt_keep {w w' : World} {base e s n : Nat} {v u : Value} {xs : List Value} (h : w.ownsRow base e s u n xs) (hg : w.grownBy w' v.ownBlock) (hne : Aprt v u) : w'.ownsRow base e s u n xs := by
  refine h.kept hg ?_
  cases hb : u.ownBlock with
  | none => exact Or.inl rfl
  | some b => exact Or.inr fun e => hne b (e.symm) hb
theorem aprt_first {w : World} {base e s n g k cap : Nat} {v u : Value} {xs : List Value} (hu : w.ownsRow base e s u n xs) (hat : v.ownBlock = some g ∨ w.heap.size ≤ g) (hne : Aprt v u) : Aprt (.slice (some ⟨g, 0, none⟩) k cap) u := by
  intro b hb hub
  have hbg : g = b := by simpa [Value.ownBlock] using hb
  subst hbg
  rcases hat with h | h
  · exact hne _ h hub
  · have := (hu.lt _ hub).2; omega
theorem aprt_symm {v u : Value} (h : Aprt v u) : Aprt u v := fun b h1 h2 => h b h2 h1
def WPost (w : World) (c : Nat) (a : Option Addr) (len cap M : Nat) (e : Ending) (w' : World) : Prop :=
  ∃ v us u ws, e = .returned (.tuple #[v, u]) ∧ us.length ≤ 11 ∧ ws.length = us.length ∧ w'.ownsRow w.heap.size 3 1 v us.length (ints us) ∧ w'.ownsRow w.heap.size 3 1 u us.length (ints ws) ∧ Cur w' c a len cap M ∧ Kp c w w'
set_option maxRecDepth 100000 in
set_option maxHeartbeats 4000000 in
theorem ways_any {c len cap N : Nat} {a : Option Addr} {w : World} (hc : Cur w c a len cap N) (hN : N ≤ 700000000) :
    Calls Try.prog 68 #[.pointer (some ⟨c, 0, none⟩)] w (WPost w c a len cap (N + 80)) := by
  have hcw := hc.1
  have HOLD := hide hc.old
  have HC := hide hc
  clear hc
  go_enter Try.func68, Try.ntmps68
  go_wp2_with fail
  refine (pick_any 7 (by omega) HC.out (by omega)).mono ?_
  rintro e w1 ⟨r1, rfl, p0, p1, hc1, hk1⟩
  have HC1 := hide hc1
  have HK1 := hide hk1
  clear hc1 hk1
  go_upto_if 10 with (go_at_call 95; refine (one_any 20 (by omega) HC1.out (by omega)).mono ?_; rintro e w2 ⟨r2, rfl, hc2, hk2⟩; have HC2 := hide hc2; have HK2 := hide (HK1.out.trans hk2); clear hc2 hk2)
  go_cut [6] (fun s6 wc => ∃ k : Nat, s6 = .int .i64 k ∧ k ≤ 11 ∧ Hid (Cur wc c a len cap (N + 6)) ∧ Hid (Kp c w wc))
  case first =>
    cases r2
    · go_wp2_with fail
      go_meet
      case rel => exact ⟨r1.toNat, by congr 1; omega, by omega, hide (HC2.out.le (by omega)), HK2⟩
    · go_wp2_with fail
      refine (pick_any 2 (by omega) HC2.out (by omega)).mono ?_
      rintro e w3 ⟨z, rfl, z0, z1, hc3, hk3⟩
      have HK3 := hide (HK2.out.trans hk3)
      have HC3 := hide hc3
      clear hc3 hk3
      go_wp2_with fail
      go_meet
      case rel => exact ⟨(10 + z).toNat, by congr 1; omega, by omega, hide (HC3.out.le (by omega)), HK3⟩
  case rest =>
    obtain ⟨k0, rfl, hk0, HC4, HK4⟩ := hcut
    go_wp2_with fail
    go_loopw [4, 5, 6] (fun v u s wr => ∃ (k : Nat) (us ws : List Int), s = .int .i64 k ∧ us.length + k ≤ 11 ∧ ws.length = us.length ∧ wr.ownsRow w.heap.size 3 1 v us.length (ints us) ∧ wr.ownsRow w.heap.size 3 1 u us.length (ints ws) ∧ Hid (Aprt v u) ∧ Hid (Cur wr c a len cap (N + 6 + 4 * us.length)) ∧ Hid (Kp c w wr)) (fun _ _ s _ => (intOf s).toNat)
    case atStart => exact ⟨k0, [], [], rfl, by simp; omega, rfl, World.ownsRow_nil _ _ _ _, World.ownsRow_nil _ _ _ _, hide (fun b h => by simp [Value.ownBlock] at h), hide (HC4.out.le (by simp)), HK4⟩
    case round =>
      obtain ⟨k, us, ws, rfl, hlen, hwl, hown, hown2, HAP, HCR, HKR⟩ := hrel
      have HO := hide hown
      have HO2 := hide hown2
      clear hown hown2
      by_cases hk : 0 < k
      · have k1 : (0 : Int) < (k : Int) := by omega
        go_wp2_with fail
        refine (pick_any 12 (by omega) HCR.out (by omega)).mono ?_
        rintro e w3 ⟨r3, rfl, q0, q1, hc3, hk3⟩
        have own3 := own_kp HO.out hk3 hcw
        have own3' := own_kp HO2.out hk3 hcw
        have HC3 := hide hc3
        have HK3 := hide (HKR.out.trans hk3)
        have hs3 := HK3.out.size
        obtain ⟨g4, cp4, w4, hr4, own4, hg4, hat4⟩ := push_lies (x := r3) own3 (by omega) hs3
        rw [← ints_snoc] at own4
        have HO4 := hide own4
        have HO4' := hide (aprt_keep own3' hg4 HAP.out)
        have HAP4 := hide (aprt_first (k := us.length + 1) (cap := cp4) own3' hat4 HAP.out)
        have HK4 := hide (kp_push HK3.out own3 hg4)
        have HC4 := hide (cur_push HC3.out hcw HOLD.out hs3 own3 hg4)
        have hs4 := HK4.out.size
        clear hc3 hk3 own3 own3' own4 hg4 hat4 HO HO2 HCR HKR HAP HC3 HK3
        go_upto_region 8 with (at_builtin; refine Lib.wpList_append_run _ rfl _ _ _ _ rfl _ _ rfl rfl _ _ (hr4 _) ?_)
        clear hr4
        go_wp2_with fail
        refine (pick_any 12 (by omega) HC4.out (by omega)).mono ?_
        rintro e w5 ⟨r5, rfl, q2, q3, hc5, hk5⟩
        have own5 := own_kp HO4.out hk5 hcw
        have own5' := own_kp HO4'.out hk5 hcw
        have HC5 := hide hc5
        have HK5 := hide (HK4.out.trans hk5)
        have hs5 := HK5.out.size
        obtain ⟨g6, cp6, w6, hr6, own6, hg6, hat6⟩ := push_lies (x := r5) own5' (by omega) hs5
        rw [← ints_snoc] at own6
        have HO6 := hide own6
        have HO6' := hide (aprt_keep own5 hg6 (aprt_symm HAP4.out))
        have HAP6 := hide (aprt_symm (aprt_first (k := us.length + 1) (cap := cp6) own5 hat6 (aprt_symm HAP4.out)))
        have HK6 := hide (kp_push HK5.out own5' hg6)
        have HC6 := hide (cur_push HC5.out hcw HOLD.out hs5 own5' hg6)
        clear hc5 hk5 own5 own5' own6 hg6 hat6 HO4 HO4' HAP4 HC4 HK4 HC5 HK5
        go_wp2_with (first | (at_builtin; refine Lib.wpList_append_run _ rfl _ _ _ _ rfl _ _ rfl rfl _ _ (hr6 _) ?_))
        go_roundw
        case rel => exact ⟨k - 1, us ++ [r3], ws ++ [r5], by congr 1; omega, by simp; omega, by simp [hwl], by rw [List.length_append]; exact HO6'.out, by rw [List.length_append]; exact HO6.out, HAP6, hide (HC6.out.le (by simp; omega)), HK6⟩
        case measure => simp only [intOf]; omega
      · have k1 : ¬ (0 : Int) < (k : Int) := by omega
        obtain ⟨av, cv, rfl⟩ := own_form HO.out
        by_cases hl0 : us.length = 0
        · have z1 : ¬ (0 : Int) < (us.length : Int) := by omega
          clear hl0
          go_wp2_with fail
          go_ret2
          exact ⟨_, us, _, ws, rfl, by omega, hwl, HO.out, HO2.out, HCR.out.le (by omega), HKR.out⟩
        · have z1 : (0 : Int) < (us.length : Int) := by omega
          obtain ⟨g, cap', e1, hg0, hg1⟩ := own_some HO.out hl0
          cases e1
          go_wp2_with fail
          refine (one_any 30 (by omega) HCR.out (by omega)).mono ?_
          rintro e w3 ⟨r3, rfl, hc3, hk3⟩
          have HO3 := hide (own_kp HO.out hk3 hcw)
          have HO3' := hide (own_kp HO2.out hk3 hcw)
          have HC3 := hide hc3
          have HK3 := hide (HKR.out.trans hk3)
          clear hc3 hk3 HO HO2 HCR HKR
          cases r3
          · go_wp2_with fail
            go_ret2
            exact ⟨_, us, _, ws, rfl, by omega, hwl, HO3.out, HO3'.out, HC3.out.le (by omega), HK3.out⟩
          · go_wp2_with fail
            refine (amongB_any (lo := -1) (hi := 1001) (HC3.out.below (below_alloc w3 _)) (by omega) (by omega) (by omega) (by simp) (by have := HC3.out.1; omega) (three_cells w3 _ (by omega) (by omega) (by omega))).mono ?_
            rintro e w4 ⟨z, rfl, z0, z1', hc4, hk4⟩
            have own4 := own_kp (HO3.out.alloc _) hk4 hcw
            have own4' := own_kp (HO3'.out.alloc _) hk4 hcw
            have HC4' := hide hc4
            have HK4' := hide ((HK3.out.alloc _).trans hk4)
            have c0 : w4.cell? ⟨g, 0, none⟩ = some (.int .i64 (us.getD 0 0)) := by rw [own4.cellAt 0 (by omega), ints_get us 0 (by omega)]
            have f0 := own4.frozenAt 0
            obtain ⟨st1, st2⟩ := own4.stored 0 (.int .i64 z)
            rw [ints_set] at st1
            have HST : Hid ((w4.setCell ⟨g, 0, none⟩ (.int .i64 z)).ownsRow w.heap.size 3 1 (.slice (some ⟨g, 0, none⟩) us.length cv) (us.set 0 z).length (ints (us.set 0 z))) := hide (by rw [List.length_set]; exact st1)
            have HST' := hide (aprt_keep own4' (v := .slice (some ⟨g, 0, none⟩) us.length cv) st2 HAP.out)
            generalize us.getD 0 0 = y at *
            clear hc4 hk4 own4 own4' st1 st2 HO3 HO3' HC3 HK3
            go_wp2_with fail
            go_ret2
            exact ⟨_, us.set 0 z, _, ws, rfl, by simp; omega, by simp [hwl], HST.out, by rw [List.length_set]; exact HST'.out, (cur_set HC4'.out hcw HOLD.out hg0).le (by omega), kp_set HK4'.out hg0⟩
end Go.Proofs.Ytljccbnkibfimaa
