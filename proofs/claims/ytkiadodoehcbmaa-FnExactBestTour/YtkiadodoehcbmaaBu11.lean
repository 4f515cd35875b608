/-
  The best round: what l11Best and BestTour of the model answer.
-/
import Derived.Test.YtkiadodoehcbmaaBt11
import Derived.Test.YtkiadodoehcbmaaRn11
namespace Go.Proofs.Ytkiadodoehcbmaa
open Go.RowKit

theorem none_row12 (w : World) : (w.alloc (.cells #[] 3)).ownsRow w.heap.size 3 1 (.slice (some ⟨w.heap.size, 0, none⟩) 0 0) 0 [] := by
  have h := World.ownsRow_lit (base := w.heap.size) (e := 3) (size := 1) w #[] 0 (Nat.le_refl _) (by unfold maxLen; omega) (by simp)
  simpa using h
/-- A list of ints behind an empty one. -/
theorem cl_run11 {w : World} {a : Option Addr} {n c : Nat} {xs : List Int} (hx : xs.length = n) (hn : n ≤ 1000) (ha : ARow w a xs) :
    ∃ v' w', (∀ ty, (Builtin.append_ #[36, 36] ty #[.slice (some ⟨w.heap.size, 0, none⟩) 0 0, .slice a n c]).run Try.prog (w.alloc (.cells #[] 3)) = .ok v' w') ∧ w'.ownsRow w.heap.size 3 1 v' n (ints xs) ∧ Below w.heap.size w w' := by
  obtain ⟨i0', hi', hz0, hz1, hz2⟩ := infoI
  obtain ⟨v', w', h1, h2, h3⟩ := run_append_v (P := Try.prog) (w.alloc (.cells #[] 3)) w.heap.size 36 0 3 i0' _ 8 Try.underlying36 hi' hz0 hz1 hz2 rfl _ 0 _ (none_row12 w) a n c (ints xs) (by rw [ints_len, hx]) (ha.alloc _).vrow (fun u hu => by simp only [ints, List.mem_map] at hu; obtain ⟨_, _, rfl⟩ := hu; rfl) (by unfold maxLen; omega) (by omega) (by simp)
  rw [Nat.zero_add] at h2
  exact ⟨v', w', fun _ => h1, h2, ((Below.refl _ _).alloc (Nat.le_refl _) (.cells #[] 3)).trans (grown_under10 h3 (fun b e => by simp [Value.ownBlock] at e; omega) (by simp))⟩
/-- None, or an order. -/
def BO (w : World) (lo n : Nat) (v : Value) : Option (List Nat) → Prop
  | none => v = .slice none 0 0
  | some x => w.ownsRow lo 3 1 v n (ints (cst x))
theorem BO.below {w w' : World} {lo n : Nat} {v : Value} : ∀ {o : Option (List Nat)}, BO w lo n v o → Below w.heap.size w w' → BO w' lo n v o
  | none, h, _ => h
  | some _, h, hb => own_below h hb
def BoP (w : World) (n : Nat) (x : List Nat) (e : Ending) (w' : World) : Prop := ∃ v, e = .returned v ∧ w'.ownsRow w.heap.size 3 1 v n (ints (cst x)) ∧ Below w.heap.size w w'
set_option maxRecDepth 100000 in
set_option maxHeartbeats 4000000 in
theorem sbo_any {L : List (Int × Int)} {n : Nat} (hl : Hid (L.length = n)) (n1 : 1 ≤ n) (n7 : n ≤ 7) (hs : Hid (Rt.allS L = true)) : ∀ (f : Nat) {a a' : Option Addr} {c d m : Nat} {b : List Nat} {w : World}, Hid (Rt.Bg n f b) → Hid ((cst b).length = m) → m + f = n → Hid (FRow w a L) → Hid (ARow w a' (cst b)) →
    Calls Try.prog 41 #[.slice a n c, .slice a' m d] w (BoP w n (Rt.bo L n f b))
  | 0, a, a', c, d, m, b, w, hb, hm, hmf, ha, hr => by
    obtain rfl : m = n := by omega
    obtain ⟨v', w', hr1, own1, hb1⟩ := cl_run11 (c := d) hm.out (by omega) hr.out
    have HO := hide own1
    have HB := hide hb1
    clear own1 hb1
    go_enter Try.func41, Try.ntmps41
    go_wp2_with (first | (at_builtin; refine Lib.wpList_append_run _ rfl _ _ _ _ rfl _ _ rfl rfl _ _ (hr1 _) ?_))
    go_ret
    exact ⟨v', rfl, HO.out, HB.out⟩
  | f + 1, a, a', c, d, m, b, w, hb, hm, hmf, ha, hr => by
    have HIH := hide fun (k : Nat) (W : World) (g : Option Addr) (cg : Nat) (hk : k < n) (hk' : ¬ k ∈ b) (h1 : Below w.heap.size w W) (h2 : ARow W g (cst (b ++ [k]))) => sbo_any hl n1 n7 hs f (a := a) (a' := g) (c := c) (d := cg) (m := m + 1) (b := b ++ [k]) (w := W) (hide (hb.out.add hk hk')) (hide (by rw [cst_len, List.length_append]; have := hm.out; rw [cst_len] at this; simp; omega)) (by omega) (hide (ha.out.below h1)) (hide h2)
    have HCO := hide fun (W : World) (x : List Nat) (g : Option Addr) (cg : Nat) (h1 : Below w.heap.size w W) (hx : Rt.Bg n 0 x) (h2 : ARow W g (cst x)) => src_any (c := c) (d := cg) (w := W) (os := cst x) hl (hide (by rw [cst_len]; have := hx.len; omega)) n1 n7 hs (hide (Rt.bg_in hl.out hx)) (hide (ha.out.below h1)) (hide h2)
    have hmn : ((m : Int) == (n : Int)) = false := by simp; omega
    have hmn' : ¬ (m : Int) = (n : Int) := by omega
    go_enter Try.func41, Try.ntmps41
    go_wp2_with fail
    go_loopw [5, 6, 7, 18] (fun v _ _ s wr => ∃ k : Nat, s = .int .i64 k ∧ k ≤ n ∧ Hid (BO wr w.heap.size n v (Rt.boTo L n f b k)) ∧ Hid (Below w.heap.size w wr)) (fun _ _ _ s _ => n - (intOf s).toNat)
    case atStart => exact ⟨0, rfl, Nat.zero_le _, hide rfl, hide (Below.refl _ _)⟩
    case round =>
      obtain ⟨k, rfl, hk, HO, HB⟩ := hrel
      have HS := hide (Rt.boTo_succ L n f b k)
      by_cases hlt : k < n
      · have k1 : (k : Int) < (n : Int) := by omega
        cases hc : b.contains k
        · have HC := hide hc
          have hkb : ¬ k ∈ b := by simpa using hc
          have HKB := hide hkb
          clear hc hkb
          go_wp2_with fail
          refine (hb_has hm (by omega) (hide (hr.out.below HB.out)) HC).mono ?_
          rintro e wq ⟨rfl, hw⟩
          obtain rfl : wr = wq := hw.symm
          obtain ⟨v1, w1, hr1, own1, hb1⟩ := cl_run11 (c := d) hm.out (by omega) (hr.out.below HB.out)
          obtain ⟨g, cg, w2, hr2, own2, hg2, hat⟩ := push_at (x := (k : Int)) own1 (by omega) hb1.size
          rw [cst_snoc] at own2
          have hB2 : Below wr.heap.size wr w2 := hb1.trans (grown_under10 hg2 (fun q e => (own1.lt q e).1) hb1.size)
          have HB2 := hide (HB.out.trans (hB2.mono HB.out.size))
          have HO2 := hide (HO.out.below hB2)
          have HC2 := hide (HIH.out k w2 (some ⟨g, 0, none⟩) cg hlt HKB.out HB2.out (arow_owns (by rw [cst_len, List.length_append]; have := hm.out; rw [cst_len] at this; simp; omega) own2))
          have HX := hide (Rt.bo_all L n f (hb.out.add hlt HKB.out)).2
          obtain ⟨av, cv, ev⟩ := own_form own1
          subst ev
          clear own1 own2 hb1 hg2 hat hB2 HO HB
          go_wp2_with (first | (at_builtin; refine Lib.wpList_append_run _ rfl _ _ _ _ rfl _ _ rfl rfl _ _ (hr1 _) ?_) | (at_builtin; refine Lib.wpList_append_run _ rfl _ _ _ _ rfl _ _ rfl rfl _ _ (hr2 _) ?_))
          refine HC2.out.mono ?_
          rintro e w3 ⟨v3, rfl, own3, hb3⟩
          have HB3 := hide (HB2.out.trans (hb3.mono HB2.out.size))
          have HO3 := hide (HO2.out.below hb3)
          have HN := hide (owns_low own3 HB2.out.size)
          clear own3 hb3 HB2 HO2 HC2 hr1 hr2
          generalize hx : Rt.bo L n f (b ++ [k]) = x at *
          cases ho : Rt.boTo L n f b k with
          | none =>
            rw [ho] at HO3 HS
            obtain rfl : u5 = .slice none 0 0 := HO3.out
            have HE : Hid (Rt.boTo L n f b (k + 1) = some x) := hide (by rw [HS.out, HC.out]; rfl)
            clear HS ho hx
            go_wp2_with fail
            go_roundw
            case rel => exact ⟨k + 1, by go_num, by omega, hide (by rw [HE.out]; exact HN.out), HB3⟩
            case measure => simp only [intOf]; omega
          | some y =>
            rw [ho] at HO3 HS
            have HY := hide (Rt.boTo_some hb.out hk ho)
            have HE : Hid (Rt.boTo L n f b (k + 1) = if Rt.costN L x < Rt.costN L y then some x else some y) := hide (by rw [HS.out, HC.out]; rfl)
            obtain ⟨a5, c5, e5, r5⟩ := own_row (by rw [cst_len]; have := HY.out.len; omega) (show w3.ownsRow w.heap.size 3 1 u5 n (ints (cst y)) from HO3.out)
            obtain ⟨a7, c7, e7, r7⟩ := own_row (by rw [cst_len]; have := HX.out.len; omega) HN.out
            subst e5 e7
            have R5 := hide r5
            have HK1 := hide (HCO.out w3 x a7 c7 HB3.out HX.out r7)
            clear HS ho hx r5 r7
            have n0 : ((n : Int) == 0) = false := by simp; omega
            have n0' : ¬ (n : Int) = 0 := by omega
            rw [show Rt.tour L (cst x) = Rt.costN L x from rfl] at HK1
            have HCY := hide fun (V : World) (h1 : Below w3.heap.size w3 V) => HCO.out V y a5 c5 (HB3.out.trans (h1.mono HB3.out.size)) HY.out (R5.out.below h1)
            rw [show Rt.tour L (cst y) = Rt.costN L y from rfl] at HCY
            generalize Rt.costN L x = X at *
            generalize Rt.costN L y = Y at *
            go_wp2_with fail
            refine HK1.out.mono ?_
            rintro e w4 ⟨rfl, hb4⟩
            have HK2 := hide (HCY.out w4 hb4)
            have B4 := hide hb4
            clear hb4 HCY HK1
            go_wp2_with fail
            refine HK2.out.mono ?_
            rintro e w5 ⟨rfl, hb5⟩
            have B5 := hide (B4.out.trans (hb5.mono B4.out.size))
            have HB5 := hide (HB3.out.trans (B5.out.mono HB3.out.size))
            clear hb5 B4 HK2
            by_cases hxy : X < Y
            · have HE2 : Hid (Rt.boTo L n f b (k + 1) = some x) := hide (by rw [HE.out, if_pos hxy])
              go_wp2_with fail
              go_roundw
              case rel => exact ⟨k + 1, by go_num, by omega, hide (by rw [HE2.out]; exact own_below HN.out B5.out), HB5⟩
              case measure => simp only [intOf]; omega
            · have HE2 : Hid (Rt.boTo L n f b (k + 1) = some y) := hide (by rw [HE.out, if_neg hxy])
              go_wp2_with fail
              go_roundw
              case rel => exact ⟨k + 1, by go_num, by omega, hide (by rw [HE2.out]; exact own_below HO3.out B5.out), HB5⟩
              case measure => simp only [intOf]; omega
        · have HC := hide hc
          clear hc
          have HE : Hid (Rt.boTo L n f b (k + 1) = Rt.boTo L n f b k) := hide (by rw [HS.out, HC.out]; rfl)
          go_wp2_with fail
          refine (hb_has hm (by omega) (hide (hr.out.below HB.out)) HC).mono ?_
          rintro e wq ⟨rfl, hw⟩
          obtain rfl : wr = wq := hw.symm
          go_wp2_with fail
          go_roundw
          case rel => exact ⟨k + 1, by go_num, by omega, hide (by rw [HE.out]; exact HO.out), HB⟩
          case measure => simp only [intOf]; omega
      · have hke : k = n := by omega
        subst hke
        have HF : Hid (wr.ownsRow w.heap.size 3 1 u5 k (ints (cst (Rt.bo L k (f + 1) b)))) := hide (by have := HO.out; rw [Rt.boTo_full L hb.out] at this; exact this)
        go_wp2_with fail
        go_ret
        exact ⟨u5, rfl, HF.out, HB.out⟩
end Go.Proofs.Ytkiadodoehcbmaa
