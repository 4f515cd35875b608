/-
  What the model's l7Rings and CyclesIn answer: how many rings an order has.
-/
import Derived.Test.YthhahfcdnpegfaaHe
namespace Go.Proofs.Ythhahfcdnpegfaa
open Go.RowKit

theorem infoS : ∃ i, Try.prog.info? 23 = some i ∧ i.zero = some (.slice none 0 0) ∧ i.size = 1 ∧ i.bytes = 24 := by
  have h : (Try.prog.info? 23).map (fun i => (i.zero, i.size, i.bytes)) = some (some (.slice none 0 0), 1, 24) := by kernel_rfl
  obtain ⟨i, hi, hzz⟩ := Option.map_eq_some_iff.1 h
  simp only [Prod.mk.injEq] at hzz
  exact ⟨i, hi, hzz.1, hzz.2.1, hzz.2.2⟩
/-- One list more behind an owned list of lists. -/
theorem push_sl {w : World} {base n : Nat} {v : Value} {xs : List Value} {a : Option Addr} {m c : Nat} (hown : w.ownsRow base 23 1 v n xs) (hn : n ≤ 100000) (hb : base ≤ w.heap.size) :
    ∃ v' w', (∀ ty, (Builtin.append_ #[72, 72] ty #[v, .slice (some ⟨w.heap.size, 0, none⟩) 1 1]).run Try.prog (w.alloc (.cells #[.slice a m c] 23)) = .ok v' w') ∧ w'.ownsRow base 23 1 v' (n + 1) (xs ++ [.slice a m c]) ∧ w.grownBy w' v.ownBlock := by
  obtain ⟨i0, hi, hz0, hz1, hz2⟩ := infoS
  obtain ⟨v', w', h1, h2, h3⟩ := run_append_v (P := Try.prog) (w.alloc (.cells #[.slice a m c] 23)) base 72 0 23 i0 _ 24 Try.underlying72 hi hz0 hz1 hz2 rfl v n xs (hown.alloc _) (some ⟨w.heap.size, 0, none⟩) 1 1 [.slice a m c] rfl (vrow_new w _ _) (fun u hu => by simp at hu; subst hu; rfl) (by unfold maxLen; omega) (by omega) (by simp; omega)
  refine ⟨v', w', fun _ => h1, h2, ?_⟩
  have hg := World.grownBy_alloc w (.cells #[.slice a m c] 23) v.ownBlock
  exact ⟨h3.os.trans hg.os, h3.tape.trans hg.tape, h3.output.trans hg.output, Nat.le_trans hg.size h3.size, fun b hb hne => (h3.block b (Nat.lt_of_lt_of_le hb hg.size) hne).trans (hg.block b hb hne)⟩
set_option maxRecDepth 100000 in
set_option maxHeartbeats 4000000 in
theorem ri_any {a : Option Addr} {n c : Nat} {xs : List Int} {w : World} (h : n ≤ 10) (HX : Hid (xs.length = n)) (HA : Hid (ARow w a xs)) (HO : Hid (Od.ordB xs n = true)) :
    Calls Try.prog 54 #[.slice a n c] w fun e w' => ∃ v cv, e = .returned (.slice v (Od.rings xs) cv) ∧ Below w.heap.size w w' := by
  have hmk := makeB_run n (by omega)
  have HM := hide (madeB_own w n (by omega))
  go_enter Try.func54, Try.ntmps54
  go_wp2_with fail
  go_loopw [4, 5, 6, 7, 13] (fun s4 _ _ _ s wr => ∃ (k r : Nat) (m : List Bool) (ls : List Value), s = .int .i64 k ∧ k ≤ n ∧ r ≤ k ∧ Hid ((m, r) = Od.ringsTo xs n k) ∧ m.length = n ∧ wr.ownsRow w.heap.size 4 1 (.slice (some ⟨w.heap.size, 0, none⟩) n n) n (bls m) ∧ wr.ownsRow (w.heap.size + 1) 23 1 s4 r ls ∧ Below w.heap.size w wr ∧ w.heap.size + 1 ≤ wr.heap.size) (fun _ _ _ _ s _ => n - (intOf s).toNat)
  case atStart => exact ⟨0, 0, List.replicate n false, [], rfl, Nat.zero_le _, Nat.le_refl _, hide rfl, by simp, HM.out, World.ownsRow_nil _ _ _ _, (Below.refl _ _).alloc (Nat.le_refl _) _, by simp⟩
  case round =>
    obtain ⟨k, r, m, ls, rfl, hk, hr, HR, hm, hown, hout, hB, hz⟩ := hrel
    clear hmk HM
    by_cases hlt : k < n
    · have i0 : (0 : Int) ≤ (k : Int) := by omega
      have i1 : (k : Int) < (n : Int) := by omega
      have HOW := hide hown
      have HOU := hide hout
      have HB := hide hB
      have HZ := hide hz
      obtain ⟨W, hW⟩ : ∃ W, W = wr := ⟨_, rfl⟩
      subst hW
      have hcl : m.count false ≤ n := by rw [← hm]; exact List.count_le_length
      clear hown hout hB hz
      go_wp2_with fail
      go_loopg [6, 7] (m.count false) (fun g s6 s7 wi => ∃ (j q : Nat) (l : List Bool) (rs : List Value), s7 = .int .i64 j ∧ j < n ∧ l.length = n ∧ Hid (l.count false ≤ g) ∧ Hid (q + l.count false = m.count false) ∧ Hid (Od.gone xs l j = Od.gone xs m k) ∧ Hid (q = 0 → j = k ∧ l = m) ∧ Hid (0 < q → m.getD k true = false) ∧ wi.ownsRow w.heap.size 4 1 (.slice (some ⟨w.heap.size, 0, none⟩) n n) n (bls l) ∧ wi.ownsRow W.heap.size 3 1 s6 q rs ∧ W.grownBy wi (some w.heap.size))
      case atStart => exact ⟨k, 0, m, [], rfl, hlt, hm, hide (Nat.le_refl _), hide (by omega), hide rfl, hide (fun _ => ⟨rfl, rfl⟩), hide (fun h => absurd h (Nat.lt_irrefl _)), HOW.out, World.ownsRow_nil _ _ _ _, World.grownBy.refl _ _⟩
      case round =>
        obtain ⟨j, q, l, rs, rfl, hj, hl, HC, HQ, HE, H0, HP, hown', hring, hg⟩ := hrel
        have j0 : (0 : Int) ≤ (j : Int) := by omega
        have j1 : (j : Int) < (n : Int) := by omega
        have c0 : wr.cell? ⟨w.heap.size, j, none⟩ = some (.bool (l.getD j true)) := by
          rw [hown'.cellAt j (by rw [Nat.mul_one]; exact hj), bls_get _ j (by rw [hl]; exact hj) true]
        have HGS := hide hg.size
        cases hb : l.getD j true
        · rw [hb] at c0
          have HCS := hide (Od.count_set hb)
          have HES := hide ((Od.gone_step (xs := xs) hb).symm.trans HE.out)
          have HPS : Hid (m.getD k true = false) := hide (by
            by_cases h : q = 0
            · obtain ⟨rfl, rfl⟩ := H0.out h; exact hb
            · exact HP.out (by omega))
          have f0 := hown'.frozenAt j
          obtain ⟨st1, st2⟩ := hown'.stored j (.bool true)
          rw [bls_set] at st1
          have hne : ∀ g, g = w.heap.size → ¬ (W.heap.size ≤ g) := fun g e h => by have := HZ.out; omega
          have hring2 := hring.kept st2 (Or.inr (fun e => hne _ rfl (hring.lt _ e).1))
          obtain ⟨v', w3, hr3, own3, hg3⟩ := push_int (x := (j : Int)) hring2 (by have := HQ.out; omega) (by have := HGS.out; simpa using this)
          rw [show (wr.setCell ⟨w.heap.size, j, none⟩ (.bool true)).heap.size = wr.heap.size by simp] at hr3
          have st3 := st1.kept hg3 (by
            right
            intro e
            exact hne _ rfl (hring.lt _ e.symm).1)
          have hg2 := grown_step (grown_step hg st2 (fun _ e => by right; cases e; rfl)) hg3 (fun g e => Or.inl (hring.lt _ e).1)
          have HR3 := hide own3
          have HS3 := hide st3
          have HG3 := hide hg2
          obtain ⟨b, off, rfl, r1⟩ := (HA.out.keep (Nat.le_trans HB.out.size hg2.size) (fun b hb' => (hg2.block b (Nat.lt_of_lt_of_le hb' HB.out.size) (by simp; omega)).trans (HB.out.block b hb'))).at (i := j) (by rw [HX.out]; exact hj)
          rw [Od.nth_cast HO.out hj] at r1
          have HJ := hide (Od.nth_lt HO.out hj)
          generalize Od.nth xs j = j2 at *
          clear hb st1 st2 st3 hown' hg hring hring2 own3 hg3 hg2 hne
          go_wp2_with (first | (at_builtin; refine Lib.wpList_append_run _ rfl _ _ _ _ rfl _ _ rfl rfl _ _ (hr3 _) ?_))
          go_roundg (gk - 1)
          case measure => have := HC.out; have := HCS.out; omega
          case rel => exact ⟨j2, q + 1, l.set j true, _, rfl, HJ.out, by simpa using hl, hide (by have := HC.out; have := HCS.out; omega), hide (by have := HQ.out; have := HCS.out; omega), HES, hide (fun h => by omega), hide (fun _ => HPS.out), HS3.out, HR3.out, HG3.out⟩
        · rw [hb] at c0
          have HE2 := hide (show Od.gone xs m k = l by rw [← HE.out]; exact Od.gone_stop hb)
          have hout2 := HOU.out.kept hg (by
            right
            intro e
            have := (HOU.out.lt _ e).1
            omega)
          have HB2 := hide (HB.out.trans (grown_below' hg (Nat.le_refl _) HB.out.size))
          obtain ⟨ar, cr, rfl⟩ := own_form hring
          by_cases hq0 : q = 0
          · obtain ⟨rfl, rfl⟩ := H0.out hq0
            subst hq0
            have HS : Hid ((l, r) = Od.ringsTo xs n (j + 1)) := hide (by simp only [Od.ringsTo]; rw [← HR.out]; show _ = (Od.gone xs l j, if l.getD j true = false then r + 1 else r); rw [hb, Od.gone_stop hb]; rfl)
            have HO2 := hide hout2
            clear hb hout2 hg
            go_wp2_with fail
            go_roundw
            case rel => exact ⟨j + 1, r, l, ls, by go_num, by omega, by omega, HS, hl, hown', HO2.out, HB2.out, by have := HGS.out; have := HZ.out; omega⟩
            case measure => simp only [intOf]; omega
          · have HS : Hid ((l, r + 1) = Od.ringsTo xs n (k + 1)) := hide (by simp only [Od.ringsTo]; rw [← HR.out]; show _ = (Od.gone xs m k, if m.getD k true = false then r + 1 else r); rw [HP.out (by omega), HE2.out]; rfl)
            have q1 : (0 : Int) < (q : Int) := by omega
            obtain ⟨v', w3, hr3, own3, hg3⟩ := push_sl (a := ar) (m := q) (c := cr) hout2 (by omega) (by have := HGS.out; have := HZ.out; omega)
            have st3 := hown'.kept hg3 (by
              right
              intro e
              have := (hout2.lt w.heap.size e.symm).1
              omega)
            have HB3 := hide (HB2.out.trans (grown_under' hg3 hout2 (by omega) HB2.out.size))
            have HO3 := hide own3
            have HS3 := hide st3
            have HZ3 := hide hg3.size
            clear hb hout2 hg own3 st3 hg3 hown' hring
            go_wp2_with (first | (at_builtin; refine Lib.wpList_append_run _ rfl _ _ _ _ rfl _ _ rfl rfl _ _ (hr3 _) ?_))
            go_roundw
            case rel => exact ⟨k + 1, r + 1, l, _, by go_num, by omega, by omega, HS, hl, HS3.out, HO3.out, HB3.out, by have := HGS.out; have := HZ.out; have := HZ3.out; omega⟩
            case measure => simp only [intOf]; omega
    · have hke : k = n := by omega
      subst hke
      obtain ⟨av, cv, rfl⟩ := own_form hout
      have HE := hide (show r = Od.rings xs by rw [Od.rings, HX.out, ← HR.out])
      go_wp2_with fail
      go_ret
      exact ⟨av, cv, by have := HE.out; subst this; rfl, hB⟩
set_option maxRecDepth 100000 in
set_option maxHeartbeats 400000 in
theorem scy_many {a : Option Addr} {n c : Nat} {w : World} (h : 10 < n) :
    Calls Try.prog 28 #[.slice a n c] w fun e w' => e = .returned (.tuple #[.int .i64 0, .bool false]) ∧ Below w.heap.size w w' := by
  have h1 : (10 : Int) < n := by omega
  go_enter Try.func28, Try.ntmps28
  go_wp2_with fail
  go_ret2
  exact ⟨rfl, Below.refl _ _⟩
set_option maxRecDepth 100000 in
set_option maxHeartbeats 400000 in
theorem scy_no {a : Option Addr} {n c : Nat} {xs : List Int} {w : World} (h : n ≤ 10) (hc : n ≤ c) (HX : Hid (xs.length = n)) (HA : Hid (ARow w a xs)) (HO : Hid (Od.ordB xs n = false)) :
    Calls Try.prog 28 #[.slice a n c] w fun e w' => e = .returned (.tuple #[.int .i64 0, .bool false]) ∧ Below w.heap.size w w' := by
  have h1 : ¬ (10 : Int) < n := by omega
  go_enter Try.func28, Try.ntmps28
  go_wp2_with fail
  refine (seo_eq HX h hc HA HO).mono ?_
  rintro e w1 ⟨rfl, rfl⟩
  go_wp2_with fail
  go_ret2
  exact ⟨rfl, Below.refl _ _⟩
set_option maxRecDepth 100000 in
set_option maxHeartbeats 400000 in
theorem scy_yes {a : Option Addr} {n c : Nat} {xs : List Int} {w : World} (h : n ≤ 10) (hc : n ≤ c) (HX : Hid (xs.length = n)) (HA : Hid (ARow w a xs)) (HO : Hid (Od.ordB xs n = true)) :
    Calls Try.prog 28 #[.slice a n c] w fun e w' => e = .returned (.tuple #[.int .i64 (Od.rings xs), .bool true]) ∧ Below w.heap.size w w' := by
  have h1 : ¬ (10 : Int) < n := by omega
  go_enter Try.func28, Try.ntmps28
  go_wp2_with fail
  refine (seo_eq HX h hc HA HO).mono ?_
  rintro e w1 ⟨rfl, rfl⟩
  go_wp2_with fail
  refine (ri_any h HX HA HO).mono ?_
  rintro e w2 ⟨v, cv, rfl, hb⟩
  go_wp2_with fail
  go_ret2
  exact ⟨rfl, hb⟩
theorem scy_w {a : Option Addr} {n c : Nat} {xs : List Int} {w : World} (hx : xs.length = n) (hc : n ≤ c) (ha : ARow w a xs) :
    Calls Try.prog 28 #[.slice a n c] w fun e w' => e = .returned (.tuple #[.int .i64 (cyI xs), .bool (cyB xs)]) ∧ Below w.heap.size w w' := by
  unfold cyI
  by_cases h : n ≤ 10
  · cases ho : Od.ordB xs n
    · have e : cyB xs = false := by simp [cyB, hx, ho]
      rw [e]; exact scy_no h hc (hide hx) (hide ha) (hide ho)
    · have e : cyB xs = true := by simp [cyB, hx, ho, h]
      rw [e]; exact scy_yes h hc (hide hx) (hide ha) (hide ho)
  · have e : cyB xs = false := by simp [cyB, hx, h]
    rw [e]; exact scy_many (by omega)
end Go.Proofs.Ythhahfcdnpegfaa
