/-
  In one: Hb, Hc, Ie12, Jl0, Wn12, Il12, Jm10, Sk, Mm11, Ns11.
-/
import Derived.Test.YtnchkgblpnompaaX1
import Derived.Test.YtnchkgblpnompaaX3
import Derived.Deep.RegionLaw
import Derived.Laws.CopyRow
import Derived.Test.YtnchkgblpnompaaX2
namespace Go.Proofs.Ytnchkgblpnompaa
open Go.RowKit

def bls (bs : List Bool) : List Value := bs.map fun b => .bool b
theorem bls_len (bs : List Bool) : (bls bs).length = bs.length := by simp [bls]
theorem bls_get (bs : List Bool) (j : Nat) (h : j < bs.length) (d : Bool) : (bls bs)[j]? = some (.bool (bs.getD j d)) := by simp [bls, h]
theorem bls_set (bs : List Bool) (j : Nat) (x : Bool) : (bls bs).set j (.bool x) = bls (bs.set j x) := by simp [bls, List.map_set]
theorem madeB_own (w : World) (n : Nat) (hn : n ≤ 1048576) : (w.alloc (.cells (madeCells #[.bool false] n) 4)).ownsRow w.heap.size 4 1 (.slice (some ⟨w.heap.size, 0, none⟩) n n) n (bls (List.replicate n false)) := by
  have h := World.ownsRow_lit (base := w.heap.size) (e := 4) (size := 1) w (madeCells #[.bool false] n) n (Nat.le_refl _) (by unfold maxLen; omega) (by simp [madeCells])
  rw [toList_madeCells_one] at h
  simpa [bls] using h

end Go.Proofs.Ytnchkgblpnompaa
namespace Go.Proofs.Ytnchkgblpnompaa
open Go.RowKit


theorem has_step {xs : List Int} {k : Nat} {x : Int} (hk : k < xs.length) (h : (xs.take k).contains x = false) (hne : (xs.getD k 0 == x) = false) : (xs.take (k + 1)).contains x = false := by
  rw [List.take_add_one]
  have e : xs[k]? = some (xs.getD k 0) := by simp [hk]
  simp only [e, Option.toList_some, List.contains_eq_mem, List.mem_append, List.mem_singleton, decide_eq_false_iff_not] at h ⊢
  simp only [beq_eq_false_iff_ne] at hne
  exact fun c => c.elim h (fun c => hne c.symm)
theorem has_yes {xs : List Int} {k : Nat} {x : Int} (hk : k < xs.length) (h : (xs.getD k 0 == x) = true) : xs.contains x = true := by
  have : xs.getD k 0 = x := by simpa using h
  rw [← this, Pf.getD_lt xs 0 hk]
  simp
set_option maxRecDepth 100000 in
set_option maxHeartbeats 1000000 in
theorem has7_any {a : Option Addr} {n c : Nat} {xs : List Int} {x : Int} {w : World} (hx : xs.length = n) (hn : n ≤ 1000) (ha : ARow w a xs) :
    Calls Try.prog 61 #[.slice a n c, .int .i64 x] w fun e w' => e = .returned (.bool (xs.contains x)) ∧ w' = w := by
  have HA := hide ha
  have HX := hide hx
  clear ha hx
  go_enter Try.func61, Try.ntmps61
  go_wp2_with fail
  go_loop [4, 6, 9] (fun s4 _ s => ∃ (k : Nat), s4 = .bool false ∧ s = .int .i64 k ∧ k ≤ n ∧ Hid ((xs.take k).contains x = false)) (fun _ _ s => n - (intOf s).toNat)
  case atStart => exact ⟨0, rfl, rfl, Nat.zero_le _, hide (by simp)⟩
  case round =>
    obtain ⟨k, rfl, rfl, hk, HK⟩ := hrel
    by_cases hlt : k < n
    · obtain ⟨b, off, rfl, r1⟩ := HA.out.at (i := k) (by rw [HX.out]; exact hlt)
      have i0 : (0 : Int) ≤ (k : Int) := by omega
      have i1 : (k : Int) < (n : Int) := by omega
      have HS := hide (has_step (x := x) (by rw [HX.out]; exact hlt) HK.out)
      have HY := hide (has_yes (x := x) (k := k) (xs := xs) (by rw [HX.out]; exact hlt))
      generalize xs.getD k 0 = y at *
      cases hb : (y == x)
      · have H1 := hide (HS.out hb)
        go_wp2_with fail
        go_round
        case rel => exact ⟨k + 1, rfl, by go_num, by omega, H1⟩
        case measure => simp only [intOf]; omega
      · have H1 := hide (HY.out hb)
        go_wp2_with fail
        go_ret
        exact ⟨ret_bool (H1.out.symm.trans (List.contains_eq_mem ..)), rfl⟩
    · have hke : k = n := by omega
      subst hke
      have H1 := hide (show xs.contains x = false by have := HK.out; rwa [← HX.out, List.take_length] at this)
      go_wp2_with fail
      go_ret
      exact ⟨ret_bool (H1.out.symm.trans (List.contains_eq_mem ..)), rfl⟩
theorem has7_eq {a : Option Addr} {n c : Nat} {xs : List Int} {x : Int} {w : World} {r : Bool} (hx : Hid (xs.length = n)) (hn : n ≤ 1000) (ha : Hid (ARow w a xs)) (h : Hid (xs.contains x = r)) :
    Calls Try.prog 61 #[.slice a n c, .int .i64 x] w fun e w' => e = .returned (.bool r) ∧ w' = w := h.out ▸ has7_any hx.out hn ha.out
theorem ARow.take {w : World} {a : Option Addr} {xs : List Int} (h : ARow w a xs) (k : Nat) : ARow w a (xs.take k) := by
  rcases h with h | ⟨b, off, ha, hb, hc⟩
  · exact Or.inl (by rw [h]; simp)
  · refine Or.inr ⟨b, off, ha, hb, fun i hi => ?_⟩
    rw [List.length_take] at hi
    rw [hc i (by omega)]
    simp [show i < k by omega]
end Go.Proofs.Ytnchkgblpnompaa
namespace Go.Proofs.Ytnchkgblpnompaa
open Go.RowKit

set_option maxRecDepth 100000 in
set_option maxHeartbeats 4000000 in
theorem spk_any {a a' : Option Addr} {n m c d : Nat} {l : List Int} {F : List (List Int)} {w : World} (hx : l.length = n) (hf : F.length = m) (hg : It.goodB l = true) (hm : m ≤ 1048576) (hl : ∀ i, i < m → (F.getD i []).length ≤ 1048576) (ha : ARow w a l) (hF : CRow w a' F) :
    Calls Try.prog 44 #[.slice a n c, .slice a' m d] w fun e w' => e = .returned (.bool (It.packB l F)) ∧ Below w.heap.size w w' := by
  have HX := hide hx
  have HF := hide hf
  have HG := hide hg
  have HL := hide hl
  have HA := hide fun (W : World) (h : Below w.heap.size w W) => ha.below h
  have HC := hide hF
  have h9 := It.good_len hg
  rw [hx] at h9
  have n9 : (n : Int) ≤ 9 := by omega
  obtain ⟨R, hR⟩ : ∃ R, It.packB l F = R := ⟨_, rfl⟩
  have HR := hide hR
  rw [hR]
  clear hx hf hg hl ha hF hR
  go_enter Try.func44, Try.ntmps44
  go_wp2_with fail
  go_loopw [4, 5, 7, 8, 10, 13] (fun s4 s5 _ _ _ s13 wr => ∃ (k : Nat) (sn : List Int), s4 = .bool false ∧ s13 = .int .i64 k ∧ k ≤ m ∧ Hid (It.PW l F k sn) ∧ Hid (wr.ownsRow w.heap.size 3 1 s5 sn.length (ints sn)) ∧ Hid (Below w.heap.size w wr)) (fun _ _ _ _ _ s13 _ => m - (intOf s13).toNat)
  case atStart => exact ⟨0, [], rfl, rfl, Nat.zero_le _, hide It.pw_start, hide ⟨rfl, Or.inl ⟨rfl, rfl⟩⟩, hide (Below.refl _ _)⟩
  case round =>
    obtain ⟨k, sn, rfl, rfl, hk, HPW, HSI, HB⟩ := hrel
    by_cases hlt : k < m
    · obtain ⟨b, off, ai, ci, rfl, hbl, r1, r2⟩ := HC.out.at (i := k) (by rw [HF.out]; exact hlt)
      have i0 : (0 : Int) ≤ (k : Int) := by omega
      have i1 : (k : Int) < (m : Int) := by omega
      have hL := HL.out k hlt
      obtain ⟨Q, hQ⟩ : ∃ Q, F.getD k [] = Q := ⟨_, rfl⟩
      obtain ⟨L, hLQ⟩ : ∃ L, Q.length = L := ⟨_, rfl⟩
      rw [hQ] at hL r1
      rw [hLQ] at hL r1
      rw [hQ] at r2
      have HQ := hide hQ
      have HLQ := hide hLQ
      have HRB := hide fun (W : World) (h : Below w.heap.size w W) => r2.below h
      have q1 := (HB.out.cell (p := ⟨b, off + k, none⟩) hbl).trans r1
      have H0 := hide (It.bw_start (b := Q) HPW.out.2)
      clear hQ hLQ r2 HC HL r1
      go_wp2_with fail
      go_loopw [4, 5, 8, 10, 19] (fun s4 s5 s8 _ s19 wq => ∃ (j : Nat) (sm : List Int) (h : Int), s4 = .bool false ∧ s8 = .int .i64 h ∧ s19 = .int .i64 j ∧ j ≤ L ∧ Hid (It.BW l Q sn j sm h) ∧ Hid (wq.ownsRow w.heap.size 3 1 s5 sm.length (ints sm)) ∧ Hid (Below w.heap.size w wq)) (fun _ _ _ _ s19 _ => L - (intOf s19).toNat)
      case atStart => exact ⟨0, sn, 0, rfl, rfl, rfl, Nat.zero_le _, H0, HSI, HB⟩
      case round =>
        clear HSI HB q1
        obtain ⟨j, sm, h, rfl, rfl, rfl, hj, HBW, HSI, HB⟩ := hrel
        have hsm := HBW.out.2.1.few
        rw [HX.out] at hsm
        obtain ⟨h0, h1, h2⟩ := HBW.out.2.2
        have h180 : h ≤ 180 := by omega
        by_cases hjl : j < L
        · obtain ⟨b2, o2, rfl, q2⟩ := (HRB.out _ HB.out).at (i := j) (by rw [HLQ.out]; exact hjl)
          have j0 : (0 : Int) ≤ (j : Int) := by omega
          have j1 : (j : Int) < (L : Int) := by omega
          have HNO := hide fun (e : (Pf.inB (Q.getD j 0) 0 ((n : Int) - 1) && !sm.contains (Q.getD j 0)) = false) => It.pw_none HPW.out (by rw [HF.out]; exact hlt) (by rw [HQ.out]; exact It.bw_no HBW.out (by rw [HLQ.out]; exact hjl) (by rw [HX.out]; exact e))
          have HYE := hide fun (e1 : Pf.inB (Q.getD j 0) 0 ((n : Int) - 1) = true) (e2 : sm.contains (Q.getD j 0) = false) => It.bw_step HG.out HBW.out (by rw [HLQ.out]; exact hjl) (by rw [HX.out]; exact e1) e2
          obtain ⟨av, cv, rfl, rv⟩ := own_row rfl HSI.out
          have HV := hide rv
          obtain ⟨N, hN⟩ : ∃ N, sm.length = N := ⟨_, rfl⟩
          have HN := hide hN
          obtain ⟨v', w3, hr3, own3, hg3⟩ := push_int (x := Q.getD j 0) HSI.out (by omega) HB.out.size
          have HB3 := hide (HB.out.trans (grown_under' hg3 HSI.out (Nat.le_refl _) HB.out.size))
          have HO3 : Hid (w3.ownsRow w.heap.size 3 1 v' (sm ++ [Q.getD j 0]).length (ints (sm ++ [Q.getD j 0]))) := hide (by rw [List.length_append, ints_snoc]; exact own3)
          rw [hN] at hr3 hsm
          rw [hN]
          generalize Q.getD j 0 = x at *
          clear h1 h2 HBW hN rv own3 hg3
          by_cases hx0 : x < 0
          · have e1 : Pf.inB x 0 ((n : Int) - 1) = false := by simp [Pf.inB]; omega
            have H1 := hide (HNO.out (by rw [e1]; rfl))
            clear HNO HYE hr3 HO3 HB3
            go_wp2_with fail
            go_ret
            exact ⟨ret_bool (by rw [← HR.out, H1.out]), HB.out⟩
          by_cases hxn : (n : Int) ≤ x
          · have e1 : Pf.inB x 0 ((n : Int) - 1) = false := by simp [Pf.inB]; omega
            have H1 := hide (HNO.out (by rw [e1]; rfl))
            clear HNO HYE hr3 HO3 HB3
            go_wp2_with fail
            go_ret
            exact ⟨ret_bool (by rw [← HR.out, H1.out]), HB.out⟩
          have e1 : Pf.inB x 0 ((n : Int) - 1) = true := Pf.inB_of (by omega) (by omega)
          cases e2 : sm.contains x
          · have H2 := hide (HYE.out e1 e2)
            have E2 := hide e2
            obtain ⟨xi, rfl⟩ : ∃ xi : Nat, x = (xi : Int) := ⟨x.toNat, by omega⟩
            have hxi : xi < n := by omega
            have hv := It.good_at HG.out (i := xi) (by rw [HX.out]; exact hxi)
            rw [Int.toNat_natCast] at H2
            obtain ⟨b3, o3, ea, q3⟩ := (HA.out _ HB3.out).at (i := xi) (by rw [HX.out]; exact hxi)
            subst ea
            have y0 : (0 : Int) ≤ (xi : Int) := by omega
            have y1 : (xi : Int) < (n : Int) := by omega
            generalize l.getD xi 0 = z at *
            have hwr : IntKind.i64.wrap (h + z) = h + z := by rw [IntKind.wrap_i64]; omega
            clear HNO HYE e1 e2 HSI
            go_wp2_with fail
            refine (has7_eq HN (by omega) HV E2).mono ?_
            rintro e w1 ⟨rfl, hw1⟩
            obtain rfl : _ = w1 := hw1.symm
            go_wp2_with (at_builtin; refine Lib.wpList_append_run _ rfl _ _ _ _ rfl _ _ rfl rfl _ _ (hr3 _) ?_)
            go_roundw
            case rel => exact ⟨j + 1, sm ++ [(xi : Int)], h + z, rfl, by go_num, by go_num, by omega, H2, HO3, HB3⟩
            case measure => simp only [intOf]; omega
          · have H1 := hide (HNO.out (by rw [e1, e2]; rfl))
            have E2 := hide e2
            clear HNO HYE hr3 HO3 HB3 e1 e2
            go_wp2_with fail
            refine (has7_eq HN (by omega) HV E2).mono ?_
            rintro e w1 ⟨rfl, hw1⟩
            obtain rfl : _ = w1 := hw1.symm
            go_wp2_with fail
            go_ret
            exact ⟨ret_bool (by rw [← HR.out, H1.out]), HB.out⟩
        · have hje : j = L := by omega
          subst hje
          have HE := hide (It.bw_end HBW.out (by rw [HLQ.out]; exact Nat.le_refl _))
          have hem : Q.isEmpty = decide (j = 0) := by
            rw [← HLQ.out]; cases Q <;> simp
          have HST := hide (fun (e1 : ¬ j = 0) (e2 : h ≤ 20) => It.pw_step HPW.out (by rw [HF.out]; exact hlt) HBW.out.2.1 (by rw [HQ.out]; exact HE.out) (by rw [HQ.out, hem]; simp [e1, e2]))
          have HBD := hide (fun (e : j = 0 ∨ 20 < h) => It.pw_bad HPW.out (by rw [HF.out]; exact hlt) (by rw [HQ.out]; exact HE.out) (by
            rw [HQ.out, hem]
            rcases e with e | e
            · simp [e]
            · have : ¬ h ≤ 20 := by omega
              simp [this]))
          clear h1 h2 HBW HE hem
          by_cases e1 : j = 0
          · have H1 := hide (HBD.out (Or.inl e1))
            have e1' : ((j : Int) == 0) = true := by simp [e1]
            clear HST HBD e1
            go_wp2_with fail
            go_ret
            exact ⟨ret_bool (by rw [← HR.out, H1.out]), HB.out⟩
          · have e1' : ((j : Int) == 0) = false := by simp; omega
            by_cases e2 : 20 < h
            · have H1 := hide (HBD.out (Or.inr e2))
              clear HST HBD e1
              go_wp2_with fail
              go_ret
              exact ⟨ret_bool (by rw [← HR.out, H1.out]), HB.out⟩
            · have H1 := hide (HST.out e1 (by omega))
              clear HST HBD e1
              go_wp2_with fail
              go_roundw
              case rel => exact ⟨k + 1, sm, rfl, by go_num, by omega, H1, HSI, HB⟩
              case measure => simp only [intOf]; omega
    · have hke : k = m := by omega
      subst hke
      have HE := hide (It.pw_end HPW.out (by rw [HF.out]; exact Nat.le_refl _))
      obtain ⟨av, cv, rfl, _⟩ := own_row rfl HSI.out
      obtain ⟨N, hN⟩ : ∃ N, sn.length = N := ⟨_, rfl⟩
      rw [hN]
      have HE2 : Hid (R = ((N : Int) == (n : Int))) := hide (by
        rw [← HR.out, HE.out, hN, HX.out]
        by_cases e : N = n
        · subst e; simp
        · have : ¬ (N : Int) = (n : Int) := by omega
          rw [beq_eq_false_iff_ne.2 e, beq_eq_false_iff_ne.2 this])
      clear HE hN
      go_wp2_with fail
      go_ret
      exact ⟨ret_bool HE2.out.symm, HB.out⟩
theorem spk_eq {a a' : Option Addr} {n m c d : Nat} {l : List Int} {F : List (List Int)} {w : World} {r : Bool} (hx : Hid (l.length = n)) (hf : Hid (F.length = m)) (hg : Hid (It.goodB l = true)) (hm : m ≤ 1048576) (hl : Hid (∀ i, i < m → (F.getD i []).length ≤ 1048576)) (ha : Hid (ARow w a l)) (hF : Hid (CRow w a' F)) (h : Hid (It.packB l F = r)) :
    Calls Try.prog 44 #[.slice a n c, .slice a' m d] w fun e w' => e = .returned (.bool r) ∧ Below w.heap.size w w' := h.out ▸ spk_any hx.out hf.out hg.out hm hl.out ha.out hF.out
set_option maxRecDepth 100000 in
set_option maxHeartbeats 1000000 in
theorem sip_w {a a' : Option Addr} {n m c d : Nat} {l : List Int} {F : List (List Int)} {w : World} (hx : l.length = n) (hf : F.length = m) (hm : m ≤ 1048576) (hl : ∀ i, i < m → (F.getD i []).length ≤ 1048576) (ha : ARow w a l) (hF : CRow w a' F) :
    Calls Try.prog 19 #[.slice a n c, .slice a' m d] w fun e w' => e = .returned (.tuple #[.bool (It.ipB l F), .bool (It.goodB l)]) ∧ Below w.heap.size w w' := by
  have HX := hide hx
  have HF := hide hf
  have HL := hide hl
  have HA := hide ha
  have HC := hide hF
  unfold It.ipB
  cases hg : It.goodB l
  · have HG := hide hg
    clear hx hf hl ha hF hg
    go_enter Try.func19, Try.ntmps19
    go_wp2_with fail
    refine (sgi_eq HX HA HG).mono ?_
    rintro e w1 ⟨rfl, rfl⟩
    go_wp2_with fail
    refine bodyPost_ret (v := .tuple #[.bool false, .bool false]) (by simp [results, Try.results19, go_sem]) rfl ?_
    exact ⟨rfl, Below.refl _ _⟩
  · have HG := hide hg
    obtain ⟨R, hR⟩ : ∃ R, It.packB l F = R := ⟨_, rfl⟩
    have HR := hide hR
    rw [hR]
    clear hx hf hl ha hF hg hR
    go_enter Try.func19, Try.ntmps19
    go_wp2_with fail
    refine (sgi_eq HX HA HG).mono ?_
    rintro e w1 ⟨rfl, rfl⟩
    go_wp2_with fail
    refine (spk_eq HX HF HG hm HL HA HC HR).mono ?_
    rintro e w2 ⟨rfl, hb⟩
    go_wp2_with fail
    refine bodyPost_ret (v := .tuple #[.bool R, .bool true]) (by simp [results, Try.results19, go_sem]) rfl ?_
    exact ⟨by rw [Bool.true_and], hb⟩
theorem sip_eq {a a' : Option Addr} {n m c d : Nat} {l : List Int} {F : List (List Int)} {w : World} {r g : Bool} (hx : Hid (l.length = n)) (hf : Hid (F.length = m)) (hm : m ≤ 1048576) (hl : Hid (∀ i, i < m → (F.getD i []).length ≤ 1048576)) (ha : Hid (ARow w a l)) (hF : Hid (CRow w a' F)) (h : Hid (It.ipB l F = r)) (h' : Hid (It.goodB l = g)) :
    Calls Try.prog 19 #[.slice a n c, .slice a' m d] w fun e w' => e = .returned (.tuple #[.bool r, .bool g]) ∧ Below w.heap.size w w' := h.out ▸ h'.out ▸ sip_w hx.out hf.out hm hl.out ha.out hF.out
set_option maxRecDepth 100000 in
set_option maxHeartbeats 1000000 in
theorem swa_w {a a' : Option Addr} {n m c d : Nat} {l : List Int} {F : List (List Int)} {w : World} (hx : l.length = n) (hf : F.length = m) (hm : m ≤ 1048576) (hl : ∀ i, i < m → (F.getD i []).length ≤ 1048576) (ha : ARow w a l) (hF : CRow w a' F) :
    Calls Try.prog 23 #[.slice a n c, .slice a' m d] w fun e w' => e = .returned (.tuple #[.int .i64 (It.waI l F), .bool (It.ipB l F)]) ∧ Below w.heap.size w w' := by
  have HX := hide hx
  have HF := hide hf
  have HL := hide hl
  have HA := hide ha
  have HC := hide hF
  cases hg : It.goodB l
  · have e1 : It.ipB l F = false := by simp [It.ipB, hg]
    have e0 : It.waI l F = 0 := by simp [It.waI, e1]
    rw [e0, e1]
    have HG := hide hg
    clear hx hf hl ha hF e0 e1 hg
    go_enter Try.func23, Try.ntmps23
    go_wp2_with fail
    refine (sgi_eq HX HA HG).mono ?_
    rintro e w1 ⟨rfl, rfl⟩
    go_wp2_with fail
    refine bodyPost_ret (v := .tuple #[.int .i64 0, .bool false]) (by simp [results, Try.results23, go_sem]) rfl ?_
    exact ⟨rfl, Below.refl _ _⟩
  · have HG := hide hg
    cases hp : It.packB l F
    · have e1 : It.ipB l F = false := by simp [It.ipB, hp]
      have e0 : It.waI l F = 0 := by simp [It.waI, e1]
      rw [e0, e1]
      have HP := hide hp
      clear hx hf hl ha hF e0 e1 hg hp
      go_enter Try.func23, Try.ntmps23
      go_wp2_with fail
      refine (sgi_eq HX HA HG).mono ?_
      rintro e w1 ⟨rfl, rfl⟩
      go_wp2_with fail
      refine (spk_eq HX HF HG hm HL HA HC HP).mono ?_
      rintro e w1 ⟨rfl, hb⟩
      go_wp2_with fail
      refine bodyPost_ret (v := .tuple #[.int .i64 0, .bool false]) (by simp [results, Try.results23, go_sem]) rfl ?_
      exact ⟨rfl, hb⟩
    · have e1 : It.ipB l F = true := by simp [It.ipB, hp, hg]
      have e0 : It.waI l F = 20 * (F.length : Int) - l.sum := by simp [It.waI, e1]
      rw [e0, e1, hf]
      obtain ⟨s0, s1⟩ := It.good_sum hg
      obtain ⟨S, hS⟩ : ∃ S, l.sum = S := ⟨_, rfl⟩
      have HS := hide hS
      rw [hS] at s0 s1 ⊢
      have HP := hide hp
      clear hx hf hl ha hF hp e0 e1 hS hg
      go_enter Try.func23, Try.ntmps23
      go_wp2_with fail
      refine (sgi_eq HX HA HG).mono ?_
      rintro e w1 ⟨rfl, rfl⟩
      go_wp2_with fail
      refine (spk_eq HX HF HG hm HL HA HC HP).mono ?_
      rintro e w1 ⟨rfl, hb⟩
      have HA1 := hide (HA.out.below hb)
      go_wp2_with fail
      refine (sisum_n HX HA1 HG HS).mono ?_
      rintro e w2 ⟨rfl, hw2⟩
      obtain rfl : w1 = w2 := hw2.symm
      go_wp2_with fail
      refine bodyPost_ret (v := .tuple #[.int .i64 (20 * (m : Int) - S), .bool true]) (by simp [results, Try.results23, go_sem]; try omega) rfl ?_
      exact ⟨rfl, hb⟩
end Go.Proofs.Ytnchkgblpnompaa
namespace Go.Proofs.Ytnchkgblpnompaa
open Go.RowKit

theorem step_copy_run {P : Program} {w : World} {ops : Array Oper} {o : Oper} {a : Act} {K : Act → World → Prop} {Q : Exit → Act → World → Prop} {E : Prop} (hgd : o.guard = none) (d s : Operand) (t t' : TypeId)
    (ho : o.op = .call { callee := .builtin .copy, args := #[d, s], argTypes := #[t, t'] }) (vd vs : Value) (hd : a.eval d = vd) (hs : a.eval s = vs)
    (v' : Value) (w' : World) (hr : (Builtin.copy_ #[t, t'] o.type #[vd, vs]).run P w = .ok v' w') (h : K (a.put o.dst v') w') :
    if Region.wanted o (yielded ops a.tmps) = true then Oper.wp P o a w K Q else E := by
  have hw : Region.wanted o (yielded ops a.tmps) = true := by simp [Region.wanted, hgd]
  rw [if_pos hw]
  unfold Oper.wp execOp
  simp only [ho, resolve, invoke, builtin, Sem.run_bind, Sem.run_pure, Result.andThen_ok, List.map_toArray, List.map_cons, List.map_nil, hd, hs, hr]
  exact h
theorem wpList_copy_run8 {P : Program} {w : World} {ops : Array Oper} {rest : List Oper} {o : Oper} {a : Act} {Q : Exit → Act → World → Prop} (hgd : o.guard = none) (d s : Operand) (t t' : TypeId)
    (ho : o.op = .call { callee := .builtin .copy, args := #[d, s], argTypes := #[t, t'] }) (vd vs : Value) (hd : a.eval d = vd) (hs : a.eval s = vs)
    (v' : Value) (w' : World) (hr : (Builtin.copy_ #[t, t'] o.type #[vd, vs]).run P w = .ok v' w') (h : wpList P ops Q rest (a.put o.dst v') w') : wpList P ops Q (o :: rest) a w := by
  refine wpList_plain hgd fun _ hK => ?_
  unfold Oper.wp execOp
  simp only [ho, resolve, invoke, builtin, Sem.run_bind, Sem.run_pure, Result.andThen_ok, List.map_toArray, List.map_cons, List.map_nil, hd, hs, hr]
  exact hK _ _ h
end Go.Proofs.Ytnchkgblpnompaa
namespace Go.Proofs.Ytnchkgblpnompaa
open Go.RowKit

/-- The first k of n are -1. -/
def mixT (n k : Nat) : List Int := List.replicate k 20 ++ List.replicate (n - k) 0
theorem mixT_len (n k : Nat) (h : k ≤ n) : (mixT n k).length = n := by simp [mixT]; omega
theorem mixT_zero (n : Nat) : mixT n 0 = List.replicate n 0 := by simp [mixT]
theorem mixT_all (n : Nat) : mixT n n = List.replicate n 20 := by simp [mixT]
theorem mixT_get {n k j : Nat} (h : j < k) (hk : k ≤ n) : (ints (mixT n k))[j]? = some (.int .i64 20) := by
  rw [ints_get _ j (by rw [mixT_len n k hk]; omega)]
  simp [mixT, List.getElem?_append, h]
theorem mixT_copy {n k j : Nat} (_hj : k + j ≤ n) : (ints (mixT n k)).take k ++ ints (List.replicate j 20) ++ (ints (mixT n k)).drop (k + j) = ints (mixT n (k + j)) := by
  have e1 : (ints (mixT n k)).take k = ints (List.replicate k 20) := by simp [mixT, ints]
  have e2 : (ints (mixT n k)).drop (k + j) = ints (List.replicate (n - (k + j)) 0) := by
    unfold ints mixT
    rw [← List.map_drop, List.drop_append, List.drop_of_length_le (by simp)]
    simp; omega
  rw [e1, e2]
  unfold mixT ints
  rw [← List.map_append, ← List.map_append, List.replicate_append_replicate]
/-- What is copied from the front of a list to behind it, or from another list. -/
theorem cp_own12 {w : World} {base X n k j : Nat} {a : Addr} {sL sC : Nat} (hj : k + j ≤ n) (hmin : j = Nat.min sL (n - k)) (hX : w.ownsRow base 3 1 (.slice (some ⟨X, 0, none⟩) n n) n (ints (mixT n k))) (hs : ∀ i, i < j → w.cell? (a.add i) = some (.int .i64 20)) :
    ∃ w', (∀ ty, (Builtin.copy_ #[23, 23] ty #[.slice (some ⟨X, k, none⟩) (n - k) (n - k), .slice (some a) sL sC]).run Try.prog w = .ok (.int .i64 (j : Int)) w') ∧ w'.ownsRow base 3 1 (.slice (some ⟨X, 0, none⟩) n n) n (ints (mixT n (k + j))) ∧ w.grownBy w' (some X) := by
  rcases hX.2 with ⟨h, _⟩ | ⟨g, cap, cur, hv, hb, hg, hnc, hcm, hcs, htake⟩
  · cases h
  cases hv
  have hsz : (Try.prog.info? 3).map (·.size) = some 1 := by kernel_rfl
  have hl : (ints (List.replicate j 20)).length = j := by simp [ints]
  have hrun := fun ty => run_copy_row (P := Try.prog) w 23 23 ty 3 X k (n - k) (n - k) a sL sC cur 3 (ints (List.replicate j 20)) Try.underlying23 hsz hg (by rw [hl]; exact hmin) (fun i v hi => by
    have hij : i < j := by have := (List.getElem?_eq_some_iff.1 hi).1; omega
    have : v = .int .i64 20 := by simpa [ints, hij] using hi.symm
    rw [this]; exact hs i hij) (by rw [hl]; omega) (c_ints _)
  have hcur : cur.toList = ints (mixT n k) := by
    rw [← htake, List.take_of_length_le (by simp; omega)]
  rw [hl, hcur, mixT_copy hj] at hrun
  refine ⟨w.setRow X (ints (mixT n (k + j))).toArray, hrun, ⟨by simp [ints, mixT_len n (k + j) hj], .inr ⟨X, n, _, rfl, hb, setRow_heap w X _ _ _ _ hg, hnc, hcm, ?_, ?_⟩⟩, ⟨rfl, rfl, rfl, by simp [World.setRow], fun k _ hne => setRow_other w X k _ (by simpa using hne)⟩⟩
  · simp [ints, mixT_len n (k + j) hj]
  · rw [List.take_of_length_le (by simp [ints, mixT_len n (k + j) hj])]
theorem mul_c12 (n : Nat) (hn : n ≤ 10) (w : World) : Calls Try.prog 57 #[.int .u64 1, .int .u64 (n : Int)] w fun e w' => e = .returned (.tuple #[.int .u64 0, .int .u64 (n : Int)]) ∧ w' = w := by
  have := Try.bits_Mul 1 n (by omega) (by omega) w
  rw [Nat.one_mul, Nat.div_eq_of_lt (by omega), Nat.mod_eq_of_lt (by omega)] at this
  exact this
set_option maxRecDepth 20000 in
set_option maxHeartbeats 400000 in
theorem rp12 {B n : Nat} {w : World} (hn : n ≤ 10) (hc : w.cell? ⟨B, 0, none⟩ = some (.int .i64 20)) (hB : B < w.heap.size) :
    Calls Try.prog 35 #[.slice (some ⟨B, 0, none⟩) 1 1, .int .i64 (n : Int)] w fun e w' => e = .returned (.slice (some ⟨w.heap.size, 0, none⟩) n n) ∧ Below w.heap.size w w' ∧ w'.ownsRow w.heap.size 3 1 (.slice (some ⟨w.heap.size, 0, none⟩) n n) n (ints (List.replicate n 20)) := by
  have h1 : IntKind.u64.wrap (n : Int) = (n : Int) := by rw [IntKind.wrap_u64]; omega
  have h2 : IntKind.i64.wrap (n : Int) = (n : Int) := by rw [IntKind.wrap_i64]; omega
  have h3 : ¬ (9223372036854775807 : Int) < (n : Int) := by omega
  have h4 : ¬ (n : Int) < 0 := by omega
  have hmk := makeI_run n (by omega)
  have hM := made_own w n (by omega)
  rw [← mixT_zero] at hM
  have hcn : (w.alloc (.cells (madeCells #[.int .i64 0] n) 3)).cell? ⟨B, 0, none⟩ = some (.int .i64 20) := ((below_new w _).cell (p := ⟨B, 0, none⟩) hB).trans hc
  obtain ⟨j0, hj0, hj1⟩ : ∃ j0, j0 = Nat.min 1 (n - 0) ∧ 0 + j0 ≤ n := ⟨_, rfl, by simp only [Nat.min_def]; split <;> omega⟩
  have hj2 : n = 0 ∨ 1 ≤ j0 := by simp only [Nat.min_def] at hj0; split at hj0 <;> omega
  obtain ⟨w1, hr1, own1, hg1⟩ := cp_own12 (a := ⟨B, 0, none⟩) (sL := 1) (sC := 1) hj1 hj0 hM (fun i hi => by
    have : i = 0 := by simp only [Nat.min_def] at hj0; split at hj0 <;> omega
    subst this
    rw [add_plain']; exact hcn)
  simp only [Nat.zero_add, Nat.sub_zero] at hr1 own1
  have HB1 := hide ((below_new w (.cells (madeCells #[.int .i64 0] n) 3)).trans (grown_below' hg1 (Nat.le_refl _) (by simp)))
  have HO1 := hide own1
  have HJ := hide hj2
  clear own1 hg1 hM hc hcn hj0 hj2
  go_enter Try.func35, Try.ntmps35
  go_wp2_with fail
  refine (mul_c12 n hn _).mono ?_
  rintro e w0 ⟨rfl, hw0⟩
  obtain rfl : w = w0 := hw0.symm
  go_wp2_with (first | (at_builtin; refine wpList_copy_run8 rfl _ _ _ _ rfl _ _ rfl rfl _ _ (hr1 _) ?_))
  clear hr1 hmk h1 h2 h4
  go_loopw [8] (fun s8 wr => ∃ (k : Nat), s8 = .int .i64 k ∧ k ≤ n ∧ Hid (n = 0 ∨ 1 ≤ k) ∧ Hid (wr.ownsRow w.heap.size 3 1 (.slice (some ⟨w.heap.size, 0, none⟩) n n) n (ints (mixT n k))) ∧ Hid (Below w.heap.size w wr)) (fun s _ => n - (intOf s).toNat)
  case atStart => exact ⟨j0, rfl, by omega, HJ, HO1, HB1⟩
  case round =>
    clear HO1 HB1 HJ
    obtain ⟨k, rfl, hk, HJ, HO, HB⟩ := hrel
    by_cases hlt : k < n
    · have k1 : 1 ≤ k := by have := HJ.out; omega
      have i0 : (0 : Int) ≤ (k : Int) := by omega
      have i1 : (k : Int) < (n : Int) := by omega
      have i2 : (k : Int) ≤ (n : Int) := by omega
      have i3 : ¬ k = n := by omega
      have i5 : ¬ n = k := by omega
      have i4 : ¬ (k : Int) = (n : Int) := by omega
      obtain ⟨j, hj, hj1⟩ : ∃ j, j = Nat.min k (n - k) ∧ k + j ≤ n := ⟨_, rfl, by simp only [Nat.min_def]; split <;> omega⟩
      have hj2 : 1 ≤ j := by simp only [Nat.min_def] at hj; split at hj <;> omega
      have hjk : j ≤ k := by simp only [Nat.min_def] at hj; split at hj <;> omega
      obtain ⟨w2, hr2, own2, hg2⟩ := cp_own12 (w := wr.drew) (a := ⟨w.heap.size, 0, none⟩) (sL := k) (sC := n) hj1 hj HO.out.drew (fun i hi => by
        rw [add_plain', Nat.zero_add, HO.out.drew.cellAt i (by omega)]
        exact mixT_get (by omega) hk)
      have HO2 := hide own2
      have HB2 := hide (HB.out.trans (grown_below' (w := wr) ⟨hg2.os, hg2.tape, hg2.output, hg2.size, hg2.block⟩ (Nat.le_refl _) HB.out.size))
      have w1 : IntKind.i64.wrap ((k : Int) + (j : Int)) = (k : Int) + (j : Int) := by rw [IntKind.wrap_i64]; omega
      have HR2 : Hid (∀ ty, (Builtin.copy_ #[23, 23] ty #[.slice (if n = k then some ⟨w.heap.size, 0, none⟩ else some ⟨w.heap.size, k, none⟩) (n - k) (n - k), .slice (some ⟨w.heap.size, 0, none⟩) k n]).run Try.prog wr.drew = .ok (.int .i64 (j : Int)) w2) := hide fun ty => by rw [if_neg i5]; exact hr2 ty
      clear own2 hg2 hj hr2 i5 i3
      go_wp2_with fail
      go_region_law ((refine step_copy_run (w := wr.drew) (by rfl) (.tmp 41) (.tmp 44) 23 23 (by rfl) (.slice (if n = k then some ⟨w.heap.size, 0, none⟩ else some ⟨w.heap.size, k, none⟩) (n - k) (n - k)) (.slice (some ⟨w.heap.size, 0, none⟩) k n) (by simp [go_sem]) (by simp [go_sem]) (.int .i64 (j : Int)) w2 (HR2.out _) ?_))
      go_wp2_with fail
      go_roundw
      case rel => exact ⟨k + j, by go_num, hj1, (by show n = 0 ∨ 1 ≤ k + j; omega), HO2⟩
      case measure => simp only [intOf]; omega
    · have hke : k = n := by omega
      subst hke
      have HF : Hid (wr.ownsRow w.heap.size 3 1 (.slice (some ⟨w.heap.size, 0, none⟩) k k) k (ints (List.replicate k 20))) := hide (by rw [← mixT_all]; exact HO.out)
      go_wp2_with fail
      go_ret
      exact ⟨rfl, HB.out, HF.out⟩
end Go.Proofs.Ytnchkgblpnompaa
namespace Go.Proofs.Ytnchkgblpnompaa
open Go.RowKit

theorem gfL_sizes (l : List Int) : ((gfL l).map Prod.snd).Perm l := by
  have : (gfL l).map Prod.snd = (Rk.rank l).map fun i => l.getD i 0 := by simp [gfL, Function.comp_def]
  rw [this]
  exact It.rank_sizes l
theorem can_gf {l : List Int} (hg : It.goodB l = true) (m : Nat) : It.canB ((gfL l).map Prod.snd) (It.twenty m) = true ↔ It.Fit l (It.twenty m) := by
  rw [It.can_iff (fun x hx => It.good_pos hg x ((gfL_sizes l).subset hx)) (It.twenty_pos m)]
  exact ⟨fun h => h.perm (gfL_sizes l), fun h => h.perm (gfL_sizes l).symm⟩
set_option maxRecDepth 100000 in
set_option maxHeartbeats 2000000 in
theorem fb_no {a : Option Addr} {n c : Nat} {l : List Int} {w : World} (hx : l.length = n) (hg : It.goodB l = false) (ha : ARow w a l) :
    Calls Try.prog 10 #[.slice a n c] w fun e w' => e = .returned (.tuple #[.int .i64 0, .bool false]) ∧ Below w.heap.size w w' := by
  have HX := hide hx
  have HA := hide ha
  have HG := hide hg
  clear hx ha hg
  go_enter Try.func10, Try.ntmps10
  go_wp2_with fail
  refine (gi_eq HX HA HG).mono ?_
  rintro e w1 ⟨rfl, rfl⟩
  go_wp2_with fail
  refine bodyPost_ret (v := .tuple #[.int .i64 0, .bool false]) (by simp [results, Try.results10, go_sem]) rfl ?_
  exact ⟨rfl, Below.refl _ _⟩
set_option maxRecDepth 100000 in
set_option maxHeartbeats 4000000 in
theorem fb_yes {a : Option Addr} {n c : Nat} {l : List Int} {w : World} (hx : l.length = n) (hg : It.goodB l = true) (ha : ARow w a l) :
    Calls Try.prog 10 #[.slice a n c] w fun e w' => e = .returned (.tuple #[.int .i64 (It.fewN l : Nat), .bool true]) ∧ Below w.heap.size w w' := by
  have HX := hide hx
  have HG := hide hg
  have HA := hide fun (W : World) (h : Below w.heap.size w W) => ha.below h
  have h9 : n ≤ 9 := by have := It.good_len hg; omega
  have HGI := hide (gi_eq (c := c) HX (hide ha) HG)
  have HGF := hide (gf_any (c := c) hx (by omega) ha)
  have HLB := hide fun (W : World) (h : ARow W a l) => lb_any (c := c) HX (hide h) HG
  have hall : It.Fit l (It.twenty n) := by rw [← hx]; exact It.fit_all l (It.good_all20 hg)
  have l0 := It.lb_nonneg hg
  have l1 := It.lb_le hg hall
  have HLE := hide fun m (h : It.Fit l (It.twenty m)) => It.lb_le hg h
  obtain ⟨m0, hm0⟩ : ∃ m0 : Nat, It.lbI l = (m0 : Int) := ⟨(It.lbI l).toNat, by omega⟩
  rw [hm0] at l1 HLB HLE
  have HF := hide fun m => can_gf hg m
  have HFW := hide fun m (h1 : It.Fit l (It.twenty m)) (h2 : ∀ q, q < m → ¬ It.Fit l (It.twenty q)) => It.few_of (It.good_all20 hg) ⟨h1, fun q hq => Nat.le_of_not_lt fun hlt => h2 q hlt hq⟩
  have HALL := hide hall
  have HSZ : Hid (∀ x ∈ gfL l, 1 ≤ x.2 ∧ x.2 ≤ 20) := hide fun x hx' => It.good_mem hg ((gfL_sizes l).subset (List.mem_map.2 ⟨x, hx', rfl⟩))
  have HGL : Hid ((gfL l).length = n) := hide (by rw [gfL_len, hx])
  generalize It.fewN l = R at *
  clear hx ha hg l0 hm0 hall
  go_enter Try.func10, Try.ntmps10
  go_wp2_with fail
  refine HGI.out.mono ?_
  rintro e w1 ⟨rfl, hw1⟩
  obtain rfl : w = w1 := hw1.symm
  go_wp2_with fail
  refine HGF.out.mono ?_
  rintro e w1 ⟨ag, cg, rfl, hcg, rg, hb1⟩
  have HB1 := hide hb1
  have HRG := hide fun (W : World) (h : Below w1.heap.size w1 W) => rg.below h
  clear hb1 rg HGF HGI
  go_wp2_with fail
  refine (HLB.out _ (HA.out _ HB1.out)).mono ?_
  rintro e w2 ⟨rfl, hw2⟩
  obtain rfl : w1 = w2 := hw2.symm
  clear HLB
  go_wp2_with fail
  go_loopw [5] (fun s5 wr => ∃ m : Nat, s5 = .int .i64 m ∧ m ≤ n ∧ Hid (∀ q, q < m → ¬ It.Fit l (It.twenty q)) ∧ Hid (Below w1.heap.size w1 wr)) (fun s5 _ => n - (intOf s5).toNat)
  case atStart => exact ⟨m0, rfl, by omega, hide fun q hq h => by have := HLE.out q h; omega, hide (Below.refl _ _)⟩
  case round =>
    obtain ⟨m, rfl, hm, HNO, HB⟩ := hrel
    have HA2 := hide (below_alloc wr (.cells #[.int .i64 20] 3))
    have q1 : (wr.alloc (.cells #[.int .i64 20] 3)).cell? ⟨wr.heap.size, 0, none⟩ = some (.int .i64 20) := by simp
    have HRP := hide (rp12 (B := wr.heap.size) (n := m) (w := wr.alloc (.cells #[.int .i64 20] 3)) (by omega) q1 (by simp))
    clear q1
    go_wp2_with fail
    refine HRP.out.mono ?_
    rintro e w3 ⟨rfl, hb3, own3⟩
    have hb3' : Below wr.heap.size wr w3 := HA2.out.trans (hb3.mono HA2.out.size)
    have B3 := hide (HB.out.trans (hb3'.mono HB.out.size))
    have hsz : (wr.alloc (.cells #[.int .i64 20] 3)).heap.size = wr.heap.size + 1 := by simp
    rw [hsz] at own3
    have HCF := hide (cf12 (wr.heap.size + 1) m m (wr.heap.size + 1) (gfL l) ag n cg (It.twenty m) w3 HGL.out (by omega) hcg HSZ.out (It.twenty_len m) (by omega) (It.twenty_pos m) (fun b hb => by rw [It.twenty_at hb]; exact Int.le_refl _) (((HRG.out _ HB.out).far (Nat.le_succ _)).below hb3') own3)
    obtain ⟨T, hT⟩ : ∃ T, It.canB ((gfL l).map Prod.snd) (It.twenty m) = T := ⟨_, rfl⟩
    rw [hT] at HCF
    have HT := hide hT
    rw [hsz]
    clear hb3 own3 HRP HA2 hT hsz
    go_wp2_with fail
    refine HCF.out.mono ?_
    rintro e w4 ⟨rfl, _, hg4⟩
    have hz := hb3'.size
    have B4 := hide (B3.out.trans ⟨hg4.os, hg4.tape, hg4.output, hg4.size, fun b hb => hg4.block b (by have := B3.out.size; omega) (by have := HB.out.size; simp; omega)⟩)
    clear hb3' hg4 HCF B3 hz
    cases T
    · have HN1 : Hid (∀ q, q < m + 1 → ¬ It.Fit l (It.twenty q)) := hide fun q hq h => by
        by_cases e : q = m
        · subst e
          have := (HF.out q).2 h
          rw [HT.out] at this; cases this
        · exact HNO.out q (by omega) h
      have hmn : m < n := by
        rcases Nat.lt_or_ge m n with h | h
        · exact h
        · exact absurd HALL.out (HN1.out n (by omega))
      go_wp2_with fail
      go_roundw
      case rel => exact ⟨m + 1, by go_num, by omega, HN1, B4⟩
      case measure => simp only [intOf]; omega
    · have HE := hide (HFW.out m ((HF.out m).1 HT.out) HNO.out)
      go_wp2_with fail
      refine bodyPost_ret (v := .tuple #[.int .i64 (m : Nat), .bool true]) (by simp [results, Try.results10, go_sem]) rfl ?_
      exact ⟨by rw [HE.out], HB1.out.trans (B4.out.mono HB1.out.size)⟩
theorem fb_w {a : Option Addr} {n c : Nat} {l : List Int} {w : World} (hx : l.length = n) (ha : ARow w a l) :
    Calls Try.prog 10 #[.slice a n c] w fun e w' => e = .returned (.tuple #[.int .i64 (It.fbI l), .bool (It.goodB l)]) ∧ Below w.heap.size w w' := by
  unfold It.fbI
  cases hg : It.goodB l
  · exact fb_no hx hg ha
  · exact fb_yes hx hg ha
end Go.Proofs.Ytnchkgblpnompaa
namespace Go.Proofs.Ytnchkgblpnompaa
open Go.RowKit

/-- A list that a call made, from lo on and below hi. -/
def AV (w : World) (lo hi : Nat) (v : Value) (n : Nat) (xs : List Int) : Prop := w.ownsRow lo 3 1 v n (ints xs) ∧ (∀ g, v.ownBlock = some g → g < hi) ∧ hi ≤ w.heap.size
theorem AV.new {w : World} {lo n : Nat} {v : Value} {xs : List Int} (h : w.ownsRow lo 3 1 v n (ints xs)) : AV w lo w.heap.size v n xs := ⟨h, fun g hg => (h.lt g hg).2, Nat.le_refl _⟩
theorem AV.below {w w' : World} {lo hi n : Nat} {v : Value} {xs : List Int} (h : AV w lo hi v n xs) (hb : Below w.heap.size w w') : AV w' lo hi v n xs := ⟨own_below h.1 hb, h.2.1, Nat.le_trans h.2.2 hb.size⟩
theorem AV.rng {w w' : World} {lo hi n a b : Nat} {v : Value} {xs : List Int} (h : AV w lo hi v n xs) (hr : Rng a b w w') (hd : hi ≤ a ∨ b ≤ lo) : AV w' lo hi v n xs :=
  ⟨own_keep h.1 fun g hg hl => hr.2.2.2.2 g hl (by have := h.1.lt g hg; have := h.2.1 g hg; omega), h.2.1, Nat.le_trans h.2.2 hr.2.2.2.1⟩
theorem AV.grown {w w' : World} {lo hi n lo' hi' n' : Nat} {v v' : Value} {xs ys : List Int} (h : AV w lo hi v n xs) (h' : AV w lo' hi' v' n' ys) (hg : w.grownBy w' v'.ownBlock) (hd : hi ≤ lo' ∨ v.ownBlock = none ∨ v.ownBlock ≠ v'.ownBlock) : AV w' lo hi v n xs := by
  refine ⟨own_keep h.1 fun g hv hl => hg.block g hl fun e => ?_, h.2.1, Nat.le_trans h.2.2 hg.size⟩
  have h1 := h'.1.lt g e.symm
  have h2 := h.2.1 g hv
  rcases hd with hd | hd | hd
  · omega
  · rw [hd] at hv; cases hv
  · exact hd (hv.trans e)
theorem AV.under {w w' : World} {lo hi n k : Nat} {v : Value} {xs : List Int} (h : AV w lo hi v n xs) (hg : w.grownBy w' v.ownBlock) (hk : k ≤ lo) (hs : k ≤ w.heap.size) : Below k w w' := grown_under hg h.1 hk hs
/-- What is held from k on, in a list that lies from lo on and below hi. -/
def HV (w : World) (v : Value) (n : Nat) (k : Int) : Prop := HeldV w v n k
theorem HV.below {w w' : World} {v : Value} {n : Nat} {k : Int} (h : HV w v n k) (hb : Below w.heap.size w w') : HV w' v n k := HeldV.below h hb
theorem HV.grown {w w' : World} {v v' : Value} {n : Nat} {k : Int} (h : HV w v n k) (hg : w.grownBy w' v'.ownBlock) (hd : v.ownBlock = none ∨ v.ownBlock ≠ v'.ownBlock) : HV w' v n k := by
  rcases h with h | ⟨g, cap, rfl, hl, hc⟩
  · exact Or.inl h
  · refine Or.inr ⟨g, cap, rfl, Nat.lt_of_lt_of_le hl hg.size, fun j hj => (World.cell?_of_block (w := w) (a := ⟨g, j, none⟩) (hg.block g hl fun e => ?_)).trans (hc j hj)⟩
    rcases hd with hd | hd
    · cases hd
    · exact hd e
end Go.Proofs.Ytnchkgblpnompaa
namespace Go.Proofs.Ytnchkgblpnompaa
open Go.RowKit

def Car (w0 w : World) (a b : Option Addr) (xs ys : List Int) : Prop := ARow w a xs ∧ ARow w b ys ∧ Below w0.heap.size w0 w
theorem Car.step {w0 w w' : World} {a b : Option Addr} {xs ys : List Int} (h : Car w0 w a b xs ys) (hb : Below w.heap.size w w') : Car w0 w' a b xs ys :=
  ⟨h.1.below hb, h.2.1.below hb, h.2.2.trans (hb.mono h.2.2.size)⟩
theorem Car.alloc {w0 w : World} {a b : Option Addr} {xs ys : List Int} (h : Car w0 w a b xs ys) (o : Obj) : Car w0 (w.alloc o) a b xs ys := h.step (below_alloc _ _)
end Go.Proofs.Ytnchkgblpnompaa
namespace Go.Proofs.Ytnchkgblpnompaa
open Go.RowKit

/-- A list of spots in a block from lo on and below hi, or none. -/
def MO (w : World) (lo hi : Nat) (v : Value) (n : Nat) (L : List (Int × Int)) : Prop :=
  hi ≤ w.heap.size ∧ L.length = n ∧ ((n = 0 ∧ ∃ a c, v = .slice a 0 c) ∨ ∃ g cap, v = .slice (some ⟨g, 0, none⟩) n cap ∧ lo ≤ g ∧ g < hi ∧ FAt w g 0 L ∧ LooseF w g (n * 2))
theorem MO.below {w w' : World} {lo hi n : Nat} {v : Value} {L : List (Int × Int)} (h : MO w lo hi v n L) (hb : Below w.heap.size w w') : MO w' lo hi v n L := by
  obtain ⟨h1, h2, h3⟩ := h
  refine ⟨Nat.le_trans h1 hb.size, h2, ?_⟩
  rcases h3 with h3 | ⟨g, cap, e, a1, a2, a3, a4⟩
  · exact Or.inl h3
  · exact Or.inr ⟨g, cap, e, a1, a2, a3.below hb (by omega), a4.below hb⟩
theorem FAt.keep {w w' : World} {b off : Nat} {xs : List (Int × Int)} (h : FAt w b off xs) (hb : w'.heap[b]? = w.heap[b]?) : FAt w' b off xs :=
  fun i hi => ⟨(World.cell?_of_block (w := w) (a := ⟨b, off + i * 2, none⟩) hb).trans (h i hi).1, (World.cell?_of_block (w := w) (a := ⟨b, off + i * 2 + 1, none⟩) hb).trans (h i hi).2⟩
theorem LooseF.keep {w w' : World} {B m : Nat} (h : LooseF w B m) (hb : w'.heap[B]? = w.heap[B]?) : LooseF w' B m := fun j hj =>
  ⟨by rw [World.cell?_of_block (w := w) (a := ⟨B, j, none⟩) hb]; exact (h j hj).1, (World.frozen?_of_block (w := w) (a := ⟨B, j, none⟩) hb).trans (h j hj).2⟩
/-- Another one's block has been written. -/
theorem MO.grown {w w' : World} {lo hi n : Nat} {v : Value} {L : List (Int × Int)} {q : Option Nat} (h : MO w lo hi v n L) (hg : w.grownBy w' q) (hq : ∀ b, q = some b → hi ≤ b ∨ b < lo) : MO w' lo hi v n L := by
  obtain ⟨h1, h2, h3⟩ := h
  refine ⟨Nat.le_trans h1 hg.size, h2, ?_⟩
  rcases h3 with h3 | ⟨g, cap, e, a1, a2, a3, a4⟩
  · exact Or.inl h3
  · have hb : w'.heap[g]? = w.heap[g]? := hg.block g (by omega) (fun e => by have := hq g e.symm; omega)
    exact Or.inr ⟨g, cap, e, a1, a2, a3.keep hb, a4.keep hb⟩
theorem MO.row {w : World} {lo hi n : Nat} {v : Value} {L : List (Int × Int)} (h : MO w lo hi v n L) : ∃ a c, v = .slice a n c ∧ FRow w a L := by
  obtain ⟨h1, h2, h3⟩ := h
  rcases h3 with ⟨h0, a, c, rfl⟩ | ⟨g, cap, rfl, a1, a2, a3, _⟩
  · subst h0; exact ⟨a, c, rfl, Or.inl (List.length_eq_zero_iff.1 h2)⟩
  · exact ⟨_, cap, rfl, a3.row (by omega)⟩
theorem AV.grownQ {w w' : World} {lo hi n : Nat} {v : Value} {xs : List Int} {q : Option Nat} (h : AV w lo hi v n xs) (hg : w.grownBy w' q) (hq : ∀ b, q = some b → hi ≤ b ∨ b < lo) : AV w' lo hi v n xs :=
  ⟨own_keep h.1 fun g hv hl => hg.block g hl fun e => by have h1 := h.1.lt g hv; have h2 := h.2.1 g hv; have := hq g e.symm; omega, h.2.1, Nat.le_trans h.2.2 hg.size⟩
theorem AV.at_ {w : World} {lo hi n : Nat} {v : Value} {xs : List Int} (h : AV w lo hi v n xs) : ∀ b, v.ownBlock = some b → lo ≤ b ∧ b < hi := fun b e => ⟨(h.1.lt b e).1, h.2.1 b e⟩
theorem AV.row {w : World} {lo hi n : Nat} {v : Value} {xs : List Int} (hx : xs.length = n) (h : AV w lo hi v n xs) : ∃ a c, v = .slice a n c ∧ ARow w a xs := own_row hx h.1
/-- Where a list of spots may be written. -/
def moB (v : Value) (n : Nat) : Option Nat := if n = 0 then none else v.ownBlock
theorem MO.at_ {w : World} {lo hi n : Nat} {v : Value} {L : List (Int × Int)} (h : MO w lo hi v n L) : ∀ b, moB v n = some b → lo ≤ b ∧ b < hi := fun b e => by
  unfold moB at e
  split at e
  · cases e
  · rename_i h0
    rcases h.2.2 with ⟨h3, _⟩ | ⟨g, cap, rfl, a1, a2, _⟩
    · exact absurd h3 h0
    · simp [Value.ownBlock] at e; omega
theorem grown_under10 {w w' : World} {q : Option Nat} {k : Nat} (hg : w.grownBy w' q) (hq : ∀ b, q = some b → k ≤ b) (hs : k ≤ w.heap.size) : Below k w w' :=
  ⟨hg.os, hg.tape, hg.output, hg.size, fun b hb => hg.block b (by omega) fun e => by have := hq b e.symm; omega⟩
/-- What is held: it counts on from k. -/
def MH (w : World) (v : Value) (n : Nat) (k : Int) : Prop := (n = 0 ∧ ∃ a c, v = .slice a 0 c) ∨ ∃ g cap, v = .slice (some ⟨g, 0, none⟩) n cap ∧ g < w.heap.size ∧ ∀ j : Nat, j < n * 2 → w.cell? ⟨g, j, none⟩ = some (.int .i64 (k + (j : Int)))
theorem MH.below {w w' : World} {v : Value} {n : Nat} {k : Int} (h : MH w v n k) (hb : Below w.heap.size w w') : MH w' v n k := by
  rcases h with h | ⟨g, cap, e, hl, hc⟩
  · exact Or.inl h
  · exact Or.inr ⟨g, cap, e, Nat.lt_of_lt_of_le hl hb.size, fun j hj => (hb.cell (p := ⟨g, j, none⟩) hl).trans (hc j hj)⟩
end Go.Proofs.Ytnchkgblpnompaa
namespace Go.Proofs.Ytnchkgblpnompaa
open Go.RowKit

set_option maxRecDepth 100000 in
set_option maxHeartbeats 400000 in
theorem si10_zero (a b : Option Addr) (c d : Nat) (w : World) :
    Calls Try.prog 38 #[.slice a 0 c, .slice b 0 d] w fun e w' => e = .returned (.bool true) ∧ w' = w := by
  go_enter Try.func38, Try.ntmps38
  go_wp2_with fail
  go_loop [13] (fun s => s = .int .i64 0) (fun s => 0)
  case atStart => rfl
  case round =>
    subst hrel
    go_wp2_with fail
    go_ret
    exact ⟨rfl, rfl⟩
theorem eq_upto {xs ys : List Int} {n : Nat} (hx : xs.length = n) (hy : ys.length = n) (h : ∀ j, j < n → xs.getD j 0 = ys.getD j 0) : xs = ys := by
  refine List.ext_getElem (by omega) fun i hi hi' => ?_
  have := h i (by omega)
  simp only [List.getD_eq_getElem?_getD, List.getElem?_eq_getElem hi, List.getElem?_eq_getElem hi', Option.getD_some] at this
  exact this
set_option maxRecDepth 100000 in
set_option maxHeartbeats 1000000 in
theorem si10_some (xs ys : List Int) (b o c b' o' c' n : Nat) (w : World) (hx : Hid (xs.length = n)) (hy : Hid (ys.length = n)) (hl : n ≤ 4000000000000) (h1 : ∀ i, i < xs.length → w.cell? ⟨b, o + i, none⟩ = some (.int .i64 (xs.getD i 0))) (h2 : ∀ i, i < ys.length → w.cell? ⟨b', o' + i, none⟩ = some (.int .i64 (ys.getD i 0))) :
    Calls Try.prog 38 #[.slice (some ⟨b, o, none⟩) n c, .slice (some ⟨b', o', none⟩) n c'] w fun e w' => e = .returned (.bool (decide (xs = ys))) ∧ ∃ m, w' = w.drewN m := by
  have hne : ((n : Int) != (n : Int)) = false := by simp
  rw [hx.out] at h1
  rw [hy.out] at h2
  have H1 := hide h1
  have H2 := hide h2
  clear h1 h2
  go_enter Try.func38, Try.ntmps38
  go_wp2_with fail
  go_loopw [13] (fun s wr => ∃ k : Nat, s = .int .i64 k ∧ k ≤ n ∧ Hid (∀ j, j < k → xs.getD j 0 = ys.getD j 0) ∧ ∃ m, wr = w.drewN m) (fun s _ => n - (intOf s).toNat)
  case atStart => exact ⟨0, rfl, Nat.zero_le _, hide (fun j h => by omega), 0, rfl⟩
  case round =>
    obtain ⟨k, rfl, hk, HE, m, rfl⟩ := hrel
    by_cases hlt : k < n
    · have r1 := H1.out k hlt
      have r2 := H2.out k hlt
      have i0 : (0 : Int) ≤ (k : Int) := by omega
      have i1 : (k : Int) < (n : Int) := by omega
      by_cases he : xs.getD k 0 = ys.getD k 0
      · have HE2 : Hid (∀ j, j < k + 1 → xs.getD j 0 = ys.getD j 0) := hide (fun j hj => by
          by_cases e : j = k
          · subst e; exact he
          · exact HE.out j (by omega))
        rw [← he] at r2
        generalize xs.getD k 0 = x at *
        have hxx : (x != x) = false := by simp
        clear he HE
        go_wp2_with fail
        go_region
        go_wp2_with fail
        exact ⟨⟨k + 1, by go_num, by omega, HE2, m + 1, rfl⟩, by simp only [intOf]; omega⟩
      · have HD : Hid (false = decide (xs = ys)) := hide (by
          symm; rw [decide_eq_false_iff_not]
          exact fun e => he (by rw [e]))
        have hxx : (xs.getD k 0 != ys.getD k 0) = true := by simpa using he
        generalize xs.getD k 0 = x at *
        generalize ys.getD k 0 = y at *
        clear he HE
        go_wp2_with fail
        go_region
        go_wp2_with fail
        go_ret
        exact ⟨ret_bool HD.out, m + 1, rfl⟩
    · have HD : Hid (true = decide (xs = ys)) := hide (by
        symm; rw [decide_eq_true_eq]
        exact eq_upto hx.out hy.out (fun j hj => HE.out j (by omega)))
      go_wp2_with fail
      go_ret
      exact ⟨ret_bool HD.out, m, rfl⟩
theorem si10 {a b : Option Addr} {c d n : Nat} {xs ys : List Int} {w : World} (hx : Hid (xs.length = n)) (hy : Hid (ys.length = n)) (hl : n ≤ 1048576) (h1 : ARow w a xs) (h2 : ARow w b ys) :
    Calls Try.prog 38 #[.slice a n c, .slice b n d] w fun e w' => e = .returned (.bool (decide (xs = ys))) ∧ Below w.heap.size w w' := by
  by_cases h0 : n = 0
  · subst h0
    have e1 := List.length_eq_zero_iff.1 hx.out
    have e2 := List.length_eq_zero_iff.1 hy.out
    subst e1 e2
    exact (si10_zero a b c d w).mono fun e w' ⟨h, hw⟩ => ⟨h, hw ▸ Below.refl _ _⟩
  · have lx := hx.out
    have ly := hy.out
    rcases h1 with rfl | ⟨b1, o1, rfl, hb1, c1⟩
    · simp at lx; omega
    · rcases h2 with rfl | ⟨b2, o2, rfl, hb2, c2⟩
      · simp at ly; omega
      · exact (si10_some xs ys b1 o1 c b2 o2 d n w hx hy (by omega) c1 c2).mono fun e w' ⟨h, m, hw⟩ => ⟨h, hw ▸ below_drewN (Below.refl _ _) m⟩
/-- Bytes as numbers. -/
def YRow (w : World) (a : Option Addr) (zs : List Int) : Prop := zs = [] ∨ ∃ b off, a = some ⟨b, off, none⟩ ∧ b < w.heap.size ∧ ∀ i, i < zs.length → w.cell? ⟨b, off + i, none⟩ = some (.int .u8 (zs.getD i 0)) ∧ 0 ≤ zs.getD i 0 ∧ zs.getD i 0 ≤ 255
theorem YRow.below {w w' : World} {a : Option Addr} {zs : List Int} (h : YRow w a zs) (hb : Below w.heap.size w w') : YRow w' a zs := by
  rcases h with h | ⟨b, off, ha, hl, hc⟩
  · exact Or.inl h
  · exact Or.inr ⟨b, off, ha, Nat.lt_of_lt_of_le hl hb.size, fun i hi => ⟨(hb.cell (p := ⟨b, off + i, none⟩) hl).trans (hc i hi).1, (hc i hi).2⟩⟩
def numY (zs : List Int) : Nat → Int
  | 0 => 0
  | k + 1 => (31 * numY zs k + zs.getD k 0) % 1000003
theorem numY_bd {zs : List Int} {n : Nat} : 0 ≤ numY zs n ∧ numY zs n < 1000003 := by
  cases n with
  | zero => exact ⟨by unfold numY; omega, by unfold numY; omega⟩
  | succ k => unfold numY; omega
theorem src_rowY {w : World} {a : Option Addr} {len : Nat} (h : Src w a len) : ∃ zs : List Int, zs.length = len ∧ YRow w a zs := by
  obtain ⟨hb, hl⟩ := h
  rcases hb with h0 | ⟨b, off, rfl, hc⟩
  · subst h0; exact ⟨[], rfl, Or.inl rfl⟩
  · by_cases h0 : len = 0
    · subst h0; exact ⟨[], rfl, Or.inl rfl⟩
    · refine ⟨(List.range len).map fun i => if hi : i < len then (hc i hi).choose else 0, by simp, Or.inr ⟨b, off, rfl, hl b off rfl (by omega), ?_⟩⟩
      intro i hi
      have hi' : i < len := by simpa using hi
      have e : ((List.range len).map fun i => if hi : i < len then (hc i hi).choose else 0).getD i 0 = (hc i hi').choose := by
        simp [List.getD_eq_getElem?_getD, hi']
      rw [e]
      exact (hc i hi').choose_spec
set_option maxRecDepth 100000 in
set_option maxHeartbeats 1000000 in
theorem num_y {a : Option Addr} {c n : Nat} {zs : List Int} {w : World} (hn : zs.length = n) (h : YRow w a zs) (hl : n ≤ 1048576) :
    Calls Try.prog 17 #[.slice a n c] w fun e w' => e = .returned (.int .i64 (numY zs n)) ∧ w' = w := by
  have H := hide h
  have HN := hide hn
  clear h hn
  go_enter Try.func17, Try.ntmps17
  go_wp2_with fail
  go_loop [3, 5, 8] (fun s3 _ s => ∃ (k : Nat) (x : Int), s3 = .int .i64 x ∧ s = .int .i64 k ∧ k ≤ n ∧ Hid (x = numY zs k) ∧ 0 ≤ x ∧ x ≤ 1000003) (fun _ _ s => n - (intOf s).toNat)
  case atStart => exact ⟨0, 0, rfl, rfl, Nat.zero_le _, hide rfl, by omega, by omega⟩
  case round =>
    obtain ⟨k, x, rfl, rfl, hk, HX, hx0, hx1⟩ := hrel
    by_cases hlt : k < n
    · rcases H.out with h0 | ⟨b, off, rfl, hb, hc⟩
      · have := HN.out; rw [h0] at this; simp at this; omega
      · obtain ⟨r1, y0, y1⟩ := hc k (by rw [HN.out]; exact hlt)
        have i0 : (0 : Int) ≤ (k : Int) := by omega
        have i1 : (k : Int) < (n : Int) := by omega
        have HS : Hid (numY zs (k + 1) = (31 * x + zs.getD k 0) % 1000003) := hide (by rw [HX.out]; rfl)
        generalize zs.getD k 0 = y at *
        have e1 : (31 * x + y).tmod 1000003 = (31 * x + y) % 1000003 := Int.tmod_eq_emod_of_nonneg (by omega)
        have e2 : IntKind.i64.wrap y = y := by rw [IntKind.wrap_i64]; omega
        have m0 := Int.emod_nonneg (31 * x + y) (show (1000003 : Int) ≠ 0 by omega)
        have m1 := Int.emod_lt_of_pos (31 * x + y) (show (0 : Int) < 1000003 by omega)
        clear hc
        go_wp2_with fail
        go_round
        case rel => exact ⟨k + 1, (31 * x + y) % 1000003, by go_num, by go_num, by omega, hide HS.out.symm, m0, by omega⟩
        case measure => simp only [intOf]; omega
    · have hke : k = n := by omega
      subst hke
      go_wp2_with fail
      go_ret
      exact ⟨ret_int HX.out, rfl⟩
/-- Some number: the same at each call. -/
theorem num_srcY {a : Option Addr} {len : Nat} {w : World} (h : Src w a len) (hl : len ≤ 1048576) : ∃ N : Int, 0 ≤ N ∧ N < 1000003 ∧ ∀ (W : World) (cap : Nat), Below w.heap.size w W → Calls Try.prog 17 #[.slice a len cap] W fun e w' => e = .returned (.int .i64 N) ∧ w' = W := by
  obtain ⟨zs, hz, hr⟩ := src_rowY h
  exact ⟨_, numY_bd.1, numY_bd.2, fun W cap hb => num_y hz (hr.below hb) hl⟩
theorem si_same {a b : Option Addr} {c d n : Nat} {xs : List Int} {w : World} (hx : Hid (xs.length = n)) (hl : n ≤ 1048576) (h1 : ARow w a xs) (h2 : ARow w b xs) :
    Calls Try.prog 38 #[.slice a n c, .slice b n d] w fun e w' => e = .returned (.bool true) ∧ Below w.heap.size w w' := by
  refine (si10 hx hx hl h1 h2).mono ?_
  rintro e w' ⟨rfl, hb⟩
  exact ⟨by simp, hb⟩
end Go.Proofs.Ytnchkgblpnompaa
