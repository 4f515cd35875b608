/-
  In one: Me10, Mf10, Kc16, It10, Mi10, Mj10, Kd16, Mg10, Ke16, Kf16, Kg16, Kh16, Ki16, Kj16.
-/
import Derived.Test.YtnjkdfeajlnojaaZ2
import Derived.RangeFuncNested
import Derived.RangeFuncBox
import Derived.RangeFuncLeaves
import Derived.Shelf.Abstract
import Derived.WalkKit
import Derived.OwnWalkIn
import Derived.TacticsInMore
import Derived.LoopNIn
import Derived.LoopIn
import Derived.Maps.AppendAt
import Derived.Test.YtnjkdfeajlnojaaZ1
import Derived.Sort.WalkA
import Derived.Sort.OwnSortedInts
namespace Go.Proofs.Ytnjkdfeajlnojaa
open Go.RowKit

theorem can_out {xs : List Int} {n : Nat} {F T : Int} (hx : xs.length = n) (h : F < 0 ∨ (n : Int) ≤ F ∨ T < 0 ∨ (n : Int) ≤ T) : Mx.canB xs (F, T) = false := by
  cases e : Mx.canB xs (F, T)
  · rfl
  · obtain ⟨h1, h2, _⟩ := Mx.can_in e
    simp only at h1 h2
    omega
theorem can_at {xs : List Int} {n f t : Nat} (hx : xs.length = n) (hf : f < n) (ht : t < n) : Mx.canB xs ((f : Int), (t : Int)) = ((xs.getD f 0 != 0) && (xs.getD t 0 == 0)) := by
  have : Pf.allB [(f : Int), (t : Int)] 0 ((xs.length : Int) - 1) = true := by
    simp only [Pf.allB, List.all_cons, List.all_nil, Bool.and_true]
    rw [Pf.inB_of (by omega) (by omega), Pf.inB_of (by omega) (by omega)]; rfl
  unfold Mx.canB
  rw [this]; simp
/-- What a try leaves: the spots as they are behind it. -/
def aft (xs : List Int) (m : Int × Int) : List Int := if Mx.canB xs m then Mx.mv xs m else xs
set_option maxHeartbeats 4000000 in
theorem ld_out {base g n c : Nat} {F T : Int} {xs : List Int} {w : World} (hx : xs.length = n) (h : F < 0 ∨ (n : Int) ≤ F ∨ T < 0 ∨ (n : Int) ≤ T) (own : w.ownsRow base 3 1 (.slice (some ⟨g, 0, none⟩) n c) n (ints xs)) :
    Calls Try.prog 59 #[.slice (some ⟨g, 0, none⟩) n c, .agg #[.int .i64 F, .int .i64 T]] w fun e w' => e = .returned (.bool (Mx.canB xs (F, T))) ∧ w'.ownsRow base 3 1 (.slice (some ⟨g, 0, none⟩) n c) n (ints (aft xs (F, T))) ∧ w.grownBy w' (some g) := by
  have hc := can_out (T := T) hx h
  have ha : aft xs (F, T) = xs := by unfold aft; rw [hc]; rfl
  rw [hc, ha]
  have HO := hide (own.alloc (.cells #[.int .i64 F, .int .i64 T] 41))
  have HG := hide (World.grownBy_alloc w (.cells #[.int .i64 F, .int .i64 T] 41) (some g))
  clear own hx hc ha
  by_cases h1 : F < 0
  · go_enter Try.func59, Try.ntmps59
    go_wp2_with fail
    go_ret
    exact ⟨rfl, HO.out, HG.out⟩
  · by_cases h2 : (n : Int) ≤ F
    · go_enter Try.func59, Try.ntmps59
      go_wp2_with fail
      go_ret
      exact ⟨rfl, HO.out, HG.out⟩
    · by_cases h3 : T < 0
      · go_enter Try.func59, Try.ntmps59
        go_wp2_with fail
        go_ret
        exact ⟨rfl, HO.out, HG.out⟩
      · have h4 : (n : Int) ≤ T := by omega
        go_enter Try.func59, Try.ntmps59
        go_wp2_with fail
        go_ret
        exact ⟨rfl, HO.out, HG.out⟩
set_option maxHeartbeats 4000000 in
theorem ld_in {base g n c f t : Nat} {xs : List Int} {w : World} (hx : xs.length = n) (hf : f < n) (ht : t < n) (own : w.ownsRow base 3 1 (.slice (some ⟨g, 0, none⟩) n c) n (ints xs)) :
    Calls Try.prog 59 #[.slice (some ⟨g, 0, none⟩) n c, .agg #[.int .i64 (f : Int), .int .i64 (t : Int)]] w fun e w' => e = .returned (.bool (Mx.canB xs ((f : Int), (t : Int)))) ∧ w'.ownsRow base 3 1 (.slice (some ⟨g, 0, none⟩) n c) n (ints (aft xs ((f : Int), (t : Int)))) ∧ w.grownBy w' (some g) := by
  have hc := can_at hx hf ht
  have hg := (own.lt g rfl).2
  have own1 := own.alloc (.cells #[.int .i64 (f : Int), .int .i64 (t : Int)] 41)
  have gr1 := World.grownBy_alloc w (.cells #[.int .i64 (f : Int), .int .i64 (t : Int)] 41) (some g)
  have cm0 : (w.alloc (.cells #[.int .i64 (f : Int), .int .i64 (t : Int)] 41)).cell? ⟨w.heap.size, 0, none⟩ = some (.int .i64 (f : Int)) := by simp
  have cm1 : (w.alloc (.cells #[.int .i64 (f : Int), .int .i64 (t : Int)] 41)).cell? ⟨w.heap.size, 1, none⟩ = some (.int .i64 (t : Int)) := by simp
  obtain ⟨W1, hW1⟩ : ∃ W, W = w.alloc (.cells #[.int .i64 (f : Int), .int .i64 (t : Int)] 41) := ⟨_, rfl⟩
  rw [← hW1] at own1 gr1 cm0 cm1
  have HW1 := hide hW1.symm
  obtain ⟨BV, hBV⟩ : ∃ b, b = w.heap.size := ⟨_, rfl⟩
  have hgB : g ≠ BV := by omega
  rw [← hBV] at cm0 cm1
  have HBV := hide hBV.symm
  obtain ⟨x, hxx⟩ : ∃ x, x = xs.getD f 0 := ⟨_, rfl⟩
  obtain ⟨y, hyy⟩ : ∃ y, y = xs.getD t 0 := ⟨_, rfl⟩
  have c1 : W1.cell? ⟨g, f, none⟩ = some (.int .i64 x) := by rw [own1.cellAt f (by omega), ints_get xs f (by omega), hxx]
  have c2 : W1.cell? ⟨g, t, none⟩ = some (.int .i64 y) := by rw [own1.cellAt t (by omega), ints_get xs t (by omega), hyy]
  have fz1 := own1.frozenAt t
  obtain ⟨s1, s2⟩ := own1.stored t (.int .i64 x)
  rw [ints_set] at s1
  have c3 : (W1.setCell ⟨g, t, none⟩ (.int .i64 x)).cell? ⟨g, f, none⟩ = some (.int .i64 ((xs.set t x).getD f 0)) := by rw [s1.cellAt f (by omega), ints_get _ f (by rw [List.length_set]; omega)]
  have fz2 := s1.frozenAt f
  obtain ⟨s3, s4⟩ := s1.stored f (.int .i64 0)
  rw [ints_set] at s3
  rw [← hxx, ← hyy] at hc
  have f0 : (0 : Int) ≤ (f : Int) := by omega
  have f1 : (f : Int) < (n : Int) := by omega
  have f2 : ¬ (f : Int) < 0 := by omega
  have f3 : ¬ (n : Int) ≤ (f : Int) := by omega
  have t0 : (0 : Int) ≤ (t : Int) := by omega
  have t1 : (t : Int) < (n : Int) := by omega
  have t2 : ¬ (t : Int) < 0 := by omega
  have t3 : ¬ (n : Int) ≤ (t : Int) := by omega
  have HSAME : Hid ((x != 0 && y == 0) = false → aft xs ((f : Int), (t : Int)) = xs) := hide fun h => by unfold aft; rw [hc, h]; rfl
  have HMV : Hid ((x != 0 && y == 0) = true → aft xs ((f : Int), (t : Int)) = (xs.set t x).set f 0) := hide fun h => by
    have e : Mx.mv xs ((f : Int), (t : Int)) = (xs.set f 0).set t x := by unfold Mx.mv; simp [hxx]
    have hne : f ≠ t := fun e => by subst e; rw [hyy, ← hxx] at h; simp at h
    unfold aft; rw [hc, h, if_pos rfl, e, Mx.mv_swap hne]
  have HG1 := hide gr1
  have HO1 := hide own1
  have HO3 := hide s3
  rw [hc]
  generalize aft xs ((f : Int), (t : Int)) = AF at *
  generalize (xs.set t x).getD f 0 = y2 at *
  clear own own1 gr1 hW1 hBV s1 s2 s3 s4 hg hxx hyy hx hc
  cases hx0 : (x == 0)
  · have hx1 : (x != 0) = true := by simp at hx0 ⊢; exact hx0
    cases hy0 : (y != 0)
    · have hy1 : (y == 0) = true := by simp at hy0 ⊢; exact hy0
      obtain rfl := HMV.out (by rw [hx1, hy1]; rfl)
      have HEND : Hid (((((W1.drewN 1).setCell ⟨g, t, none⟩ (.int .i64 x)).setCell ⟨g, f, none⟩ (.int .i64 0)).ownsRow base 3 1 (.slice (some ⟨g, 0, none⟩) n c) n (ints ((xs.set t x).set f 0))) ∧ w.grownBy (((W1.drewN 1).setCell ⟨g, t, none⟩ (.int .i64 x)).setCell ⟨g, f, none⟩ (.int .i64 0)) (some g)) := hide ⟨HO3.out, by
        have h := grownF_set (o := f) (v := .int .i64 0) (grownF_set (o := t) (v := .int .i64 x) HG1.out)
        exact ⟨h.os, h.tape, h.output, h.size, h.block⟩⟩
      rw [hx1, hy1]
      clear HSAME HMV HO1 HO3 HG1 hx1 hy1
      go_enter Try.func59, Try.ntmps59
      go_upto_region 2 with fail
      rw [HW1.out, HBV.out]
      clear HW1 HBV
      go_wp2_with fail
      go_region
      all_goals
        go_wp2_with fail
        go_ret
        exact ⟨rfl, HEND.out⟩
    · have hy1 : (y == 0) = false := by simp at hy0 ⊢; exact hy0
      obtain rfl := HSAME.out (by rw [hx1, hy1]; rfl)
      rw [hx1, hy1]
      clear HMV HO3 hx1 hy1 HSAME
      go_enter Try.func59, Try.ntmps59
      go_upto_region 2 with fail
      rw [HW1.out, HBV.out]
      clear HW1 HBV
      go_wp2_with fail
      go_ret
      exact ⟨rfl, HO1.out, HG1.out⟩
  · have hx1 : (x != 0) = false := by simp at hx0 ⊢; exact hx0
    obtain rfl := HSAME.out (by rw [hx1]; rfl)
    rw [hx1]
    clear HMV HO3 hx1 HSAME
    go_enter Try.func59, Try.ntmps59
    go_upto_region 2 with fail
    rw [HW1.out, HBV.out]
    clear HW1 HBV
    go_wp2_with fail
    go_ret
    exact ⟨rfl, HO1.out, HG1.out⟩
theorem ld_any {base g n c : Nat} {F T : Int} {xs : List Int} {w : World} (hx : xs.length = n) (own : w.ownsRow base 3 1 (.slice (some ⟨g, 0, none⟩) n c) n (ints xs)) :
    Calls Try.prog 59 #[.slice (some ⟨g, 0, none⟩) n c, .agg #[.int .i64 F, .int .i64 T]] w fun e w' => e = .returned (.bool (Mx.canB xs (F, T))) ∧ w'.ownsRow base 3 1 (.slice (some ⟨g, 0, none⟩) n c) n (ints (aft xs (F, T))) ∧ w.grownBy w' (some g) := by
  by_cases h : F < 0 ∨ (n : Int) ≤ F ∨ T < 0 ∨ (n : Int) ≤ T
  · exact ld_out hx h own
  · obtain ⟨f, rfl⟩ := Int.eq_ofNat_of_zero_le (show 0 ≤ F by omega)
    obtain ⟨t, rfl⟩ := Int.eq_ofNat_of_zero_le (show 0 ≤ T by omega)
    exact ld_in hx (by omega) (by omega) own
end Go.Proofs.Ytnjkdfeajlnojaa
namespace Go.Proofs.Ytnjkdfeajlnojaa
open Go.RowKit

theorem av_nil (w : World) (lo : Nat) : AV w lo w.heap.size (.slice none 0 0) 0 [] := ⟨World.ownsRow_nil _ _ _ _, fun g hg => by simp [Value.ownBlock] at hg, Nat.le_refl _⟩
theorem own_some10 {w : World} {base e s n : Nat} {v : Value} {xs : List Value} (h : w.ownsRow base e s v n xs) (hn : n ≠ 0) : ∃ g cap, v = .slice (some ⟨g, 0, none⟩) n cap ∧ base ≤ g ∧ g < w.heap.size := by
  rcases h.2 with ⟨rfl, h0⟩ | ⟨g, cap, cur, rfl, hb, hg, _⟩
  · exact absurd h0 hn
  · exact ⟨g, cap, rfl, hb, (Array.getElem?_eq_some_iff.1 hg).1⟩
set_option maxHeartbeats 400000 in
theorem dm_no1 {a b : Option Addr} {n c m d : Nat} {xs : List Int} {w : World} (HX : Hid (xs.length = n)) (hc : n ≤ c) (HA : Hid (ARow w a xs)) (HG : Hid (Mx.goodB xs = false)) :
    Calls Try.prog 72 #[.slice a n c, .slice b m d] w fun e w' => e = .returned (.tuple #[.slice none 0 0, .bool false]) ∧ w' = w := by
  go_enter Try.func72, Try.ntmps72
  go_wp2_with fail
  refine (gs_eq HX hc HA HG).mono ?_
  rintro e w1 ⟨rfl, rfl⟩
  go_wp2_with fail
  go_ret2
  exact ⟨rfl, rfl⟩
set_option maxHeartbeats 400000 in
theorem dm_no2 {a b : Option Addr} {n c m d : Nat} {xs : List Int} {w : World} (HX : Hid (xs.length = n)) (hc : n ≤ c) (HA : Hid (ARow w a xs)) (HG : Hid (Mx.goodB xs = true)) (hm : 20 < m) :
    Calls Try.prog 72 #[.slice a n c, .slice b m d] w fun e w' => e = .returned (.tuple #[.slice none 0 0, .bool false]) ∧ w' = w := by
  have m0 : (20 : Int) < (m : Int) := by omega
  go_enter Try.func72, Try.ntmps72
  go_wp2_with fail
  refine (gs_eq HX hc HA HG).mono ?_
  rintro e w1 ⟨rfl, rfl⟩
  go_wp2_with fail
  go_ret2
  exact ⟨rfl, rfl⟩
set_option maxHeartbeats 4000000 in
theorem dm_yes {a b : Option Addr} {n c m d : Nat} {xs : List Int} {L : List (Int × Int)} {w : World} (HX : Hid (xs.length = n)) (hc : n ≤ c) (HA : Hid (ARow w a xs)) (HG : Hid (Mx.goodB xs = true)) (HL : Hid (L.length = m)) (hm : m ≤ 20) (HF : Hid (FRow w b L)) :
    Calls Try.prog 72 #[.slice a n c, .slice b m d] w fun e w' => ∃ v, e = .returned (.tuple #[v, .bool (Mx.dmB xs L)]) ∧ Below w.heap.size w w' ∧ AV w' w.heap.size w'.heap.size v (Mx.dmL xs L).length (Mx.dmL xs L) := by
  have m0 : ¬ (20 : Int) < (m : Int) := by omega
  have hn := Mx.good_len HG.out
  rw [HX.out] at hn
  obtain ⟨n2, n9⟩ := hn
  have HNO := hide fun (h : Mx.run xs L = none) => Mx.dm_no (Or.inr (Or.inr h))
  have HYES := hide fun (ys : List Int) (h : Mx.run xs L = some ys) => Mx.dm_yes HG.out (by rw [HL.out]; exact hm) h
  have HR0 : Hid (Mx.run xs (L.take 0) = some xs) := hide rfl
  have HRS := hide fun (i : Nat) (ys : List Int) (hi : i < L.length) (h : Mx.run xs (L.take i) = some ys) (hc : Mx.canB ys (L.getD i (0, 0)) = true) => show Mx.run xs (L.take (i + 1)) = some (Mx.mv ys (L.getD i (0, 0))) by rw [Mx.run_step hi h, hc]; rfl
  have HRF := hide fun (i : Nat) (ys : List Int) (hi : i < L.length) (h : Mx.run xs (L.take i) = some ys) (hc : Mx.canB ys (L.getD i (0, 0)) = false) => HNO.out (Mx.run_stop hi h hc)
  have HLT : Hid (L.take m = L) := hide (by rw [← HL.out, List.take_length])
  generalize Mx.dmB xs L = G at *
  generalize Mx.dmL xs L = R at *
  obtain ⟨b0, o0, rfl, hb0, hcell⟩ := HA.out.resolve_left (fun e => by have := HX.out; rw [e] at this; simp at this; omega)
  have HCL := hide (clone_any (c := c) HX.out (by omega) hcell)
  clear hcell
  go_enter Try.func72, Try.ntmps72
  go_wp2_with fail
  refine (gs_eq HX hc HA HG).mono ?_
  rintro e w1 ⟨rfl, hw1⟩
  obtain rfl : w = w1 := hw1.symm
  go_wp2_with fail
  refine HCL.out.mono ?_
  rintro e w0 ⟨v, rfl, hb, own⟩
  have HB0 := hide hb
  have HO0 := hide own
  obtain ⟨g, cap, rfl, hg0, _⟩ := own_some10 own (by omega)
  clear hb own HCL
  go_wp2_with fail
  go_loopw [4, 5, 8, 21] (fun s4 s5 _ s wr => ∃ (i : Nat) (ys : List Int), s4 = .slice none 0 0 ∧ s5 = .bool false ∧ s = .int .i64 i ∧ i ≤ m ∧ ys.length = n ∧ Hid (wr.ownsRow w.heap.size 3 1 (.slice (some ⟨g, 0, none⟩) n cap) n (ints ys)) ∧ Hid (Below w.heap.size w wr) ∧ Hid (Mx.run xs (L.take i) = some ys)) (fun _ _ _ s _ => m - (intOf s).toNat)
  case atStart => exact ⟨0, xs, rfl, rfl, rfl, Nat.zero_le _, HX.out, HO0, HB0, HR0⟩
  case round =>
    obtain ⟨i, ys, rfl, rfl, rfl, hi, hy, HO, HB, HR⟩ := hrel
    by_cases hlt : i < m
    · obtain ⟨b1, o1, rfl, hb1, r0, r1⟩ := HF.out.at (i := i) (by rw [HL.out]; exact hlt)
      have r0' := (HB.out.cell (p := ⟨b1, o1 + i * 2, none⟩) hb1).trans r0
      have r1' := (HB.out.cell (p := ⟨b1, o1 + i * 2 + 1, none⟩) hb1).trans r1
      have HS1 := hide (HRS.out i ys (by rw [HL.out]; exact hlt) HR.out)
      have HS2 := hide (HRF.out i ys (by rw [HL.out]; exact hlt) HR.out)
      generalize hmm : L.getD i (0, 0) = mm at *
      obtain ⟨F, T⟩ := mm
      simp only at r0' r1'
      clear r0 r1 hmm
      have i0 : (0 : Int) ≤ (i : Int) := by omega
      have i1 : (i : Int) < (m : Int) := by omega
      have bW1 := below_new wr (.cells #[.int .i64 F, .int .i64 T] 41)
      have own1 := HO.out.alloc (.cells #[.int .i64 F, .int .i64 T] 41)
      have cm0 : (wr.alloc (.cells #[.int .i64 F, .int .i64 T] 41)).cell? ⟨wr.heap.size, 0, none⟩ = some (.int .i64 F) := by simp
      have cm1 : (wr.alloc (.cells #[.int .i64 F, .int .i64 T] 41)).cell? ⟨wr.heap.size, 1, none⟩ = some (.int .i64 T) := by simp
      have hz1 : wr.heap.size < (wr.alloc (.cells #[.int .i64 F, .int .i64 T] 41)).heap.size := by simp
      obtain ⟨W1, hW1⟩ : ∃ W, W = wr.alloc (.cells #[.int .i64 F, .int .i64 T] 41) := ⟨_, rfl⟩
      rw [← hW1] at bW1 own1 cm0 cm1 hz1
      have HB1 := hide (HB.out.trans (bW1.mono HB.out.size))
      have HO1 := hide own1
      have HW1 := hide hW1.symm
      obtain ⟨BV, hBV⟩ : ∃ b, b = wr.heap.size := ⟨_, rfl⟩
      rw [← hBV] at cm0 cm1 hz1
      have HBV := hide hBV.symm
      clear bW1 own1 hW1 hBV HO HB
      go_upto_region 7 with fail
      rw [HW1.out, HBV.out]
      clear HW1 HBV
      have HCM := hide (cm_any (c := cap) (F := F) (T := T) hy (by omega) (by omega) (arow_owns hy.symm HO1.out))
      have HIN := hide fun (h : Mx.canB ys (F, T) = true) => Mx.can_in h
      generalize Mx.canB ys (F, T) = K at *
      go_wp2_with fail
      refine HCM.out.mono ?_
      rintro e w2 ⟨rfl, hb2⟩
      have own2 := g_own HO1.out hb2
      have cm0 := (hb2.cell (p := ⟨BV, 0, none⟩) hz1).trans cm0
      have cm1 := (hb2.cell (p := ⟨BV, 1, none⟩) hz1).trans cm1
      have HB2 := hide (HB1.out.trans (hb2.mono HB1.out.size))
      clear HCM hb2
      cases K
      · obtain ⟨rfl, rfl⟩ := HS2.out rfl
        have HNIL := hide (av_nil w2 w.heap.size)
        go_wp2_with fail
        go_ret2
        exact ⟨.slice none 0 0, rfl, HB2.out, HNIL.out⟩
      · obtain ⟨⟨q1, q2⟩, ⟨q3, q4⟩, _, _⟩ := HIN.out rfl
        obtain ⟨f, rfl⟩ := Int.eq_ofNat_of_zero_le q1
        obtain ⟨t, rfl⟩ := Int.eq_ofNat_of_zero_le q3
        have HMG := hide (mg_any (f := f) (t := t) hy (by omega) (by omega) own2)
        have HRN := hide (HS1.out rfl)
        clear own2 HS1 HS2 HIN q1 q2 q3 q4
        go_wp2_with fail
        refine HMG.out.mono ?_
        rintro e w3 ⟨rfl, own3, hg3⟩
        have HO3 := hide own3
        have HB3 := hide (HB2.out.trans (grown_under10 hg3 (fun b e => by cases e; exact hg0) HB2.out.size))
        clear own3 hg3 HMG
        go_wp2_with fail
        go_roundw
        case rel => exact ⟨i + 1, _, rfl, rfl, by go_num, by omega, by rw [Mx.mv_len]; exact hy, HO3, HB3, HRN⟩
        case measure => simp only [intOf]; omega
    · have hie : i = m := by omega
      subst hie
      rw [HLT.out] at HR
      obtain ⟨rfl, rfl⟩ := HYES.out ys HR.out
      have HFIN := hide (AV.new HO.out)
      go_wp2_with fail
      go_ret2
      exact ⟨.slice (some ⟨g, 0, none⟩) n cap, rfl, HB.out, HFIN.out⟩
theorem dm_w {a b : Option Addr} {n c m d : Nat} {xs : List Int} {L : List (Int × Int)} {w : World} (hx : xs.length = n) (hc : n ≤ c) (ha : ARow w a xs) (hl : L.length = m) (hf : FRow w b L) :
    Calls Try.prog 72 #[.slice a n c, .slice b m d] w fun e w' => ∃ v, e = .returned (.tuple #[v, .bool (Mx.dmB xs L)]) ∧ Below w.heap.size w w' ∧ AV w' w.heap.size w'.heap.size v (Mx.dmL xs L).length (Mx.dmL xs L) := by
  cases hg : Mx.goodB xs
  · obtain ⟨e1, e2⟩ := Mx.dm_no (L := L) (Or.inl hg)
    rw [e1, e2]
    exact (dm_no1 (hide hx) hc (hide ha) (hide hg)).mono fun e w' ⟨he, hw⟩ => ⟨_, he, hw ▸ Below.refl _ _, hw ▸ av_nil w _⟩
  · by_cases hm : m ≤ 20
    · exact dm_yes (hide hx) hc (hide ha) (hide hg) (hide hl) hm (hide hf)
    · obtain ⟨e1, e2⟩ := Mx.dm_no (xs := xs) (L := L) (Or.inr (Or.inl (by omega)))
      rw [e1, e2]
      exact (dm_no2 (hide hx) hc (hide ha) (hide hg) (by omega)).mono fun e w' ⟨he, hw⟩ => ⟨_, he, hw ▸ Below.refl _ _, hw ▸ av_nil w _⟩
end Go.Proofs.Ytnjkdfeajlnojaa
namespace Go.Proofs.Ytnjkdfeajlnojaa
open Go.RowKit Go.Shelf

attribute [local go_sem] Oper.semAt_some

theorem own_keep2 {w w' : World} {base e s n : Nat} {v : Value} {xs : List Value} (h : w.ownsRow base e s v n xs) (hb : ∀ g, v.ownBlock = some g → g < w.heap.size → w'.heap[g]? = w.heap[g]?) : w'.ownsRow base e s v n xs := by
  rcases h with ⟨h0, h | ⟨g', cap, cur, rfl, h2, h3, h4⟩⟩
  · exact ⟨h0, Or.inl h⟩
  · exact ⟨h0, Or.inr ⟨g', cap, cur, rfl, h2, (hb g' rfl (Array.getElem?_eq_some_iff.1 h3).1).trans h3, h4⟩⟩
theorem ne16 {g k B : Nat} {n c : Nat} (e : (Value.slice (some ⟨g, 0, none⟩) n c).ownBlock = some k) (h : B ≠ g) : some k ≠ some B := fun e' => by
  simp only [Value.ownBlock, Option.some.injEq] at e e'
  omega
theorem own_row16 {β : Type} (B base e s n : Nat) (v : Value) (p : β → List Value → Prop) : OwnFrom B (fun (x : β) W => ∃ ys, p x ys ∧ W.ownsRow base e s v n ys) := fun x X Y row hs hg hr => by
  obtain ⟨ys, h1, h2⟩ := hs
  refine ⟨ys, h1, own_keep2 h2 fun k hk hl => hg.block k hl fun e' => ?_⟩
  obtain ⟨_, o, ho, hc⟩ := hr k e'.symm
  rcases h2.2 with ⟨rfl, _⟩ | ⟨g, cap, cur, rfl, _, hg', _⟩
  · simp [Value.ownBlock] at hk
  · simp only [Value.ownBlock, Option.some.injEq] at hk
    subst hk
    rw [hg'] at ho
    cases ho
    cases hc
theorem cell2_own16 {β : Type} (B Bx : Nat) (u v : Value) : OwnFrom B (fun (_ : β) W => W.cell? ⟨Bx, 0, none⟩ = some u ∧ W.cell? ⟨Bx, 1, none⟩ = some v) :=
  Own.from (fun _ _ _ _ hs hg hr => ⟨cell_kept hs.1 hg hr, cell_kept hs.2 hg hr⟩) _
theorem keeps_below16 {B : Nat} {W W' : World} (h : Below W.heap.size W W') : KeepsFrom B W W' := ⟨h.size, fun k _ _ hk _ => (h.block k (Array.getElem?_eq_some_iff.1 hk).1).trans hk⟩
theorem st_all16 {xs ys : List Int} {M : List (Int × Int)} {m : Nat} (hm : M.length = m) (h : Mx.run xs ((rev16 M m).map fun x => Jb.bk x.2) = some ys) : Jb.st xs M = some ys := by
  rw [rev16_moves (by omega), List.take_of_length_le (by rw [Jb.bks_len]; omega)] at h
  exact h
theorem st_part16 {xs : List Int} {M : List (Int × Int)} {k : Nat} (hk : k ≤ M.length) (h : Mx.run xs ((rev16 M k).map fun x => Jb.bk x.2) = none) : Jb.st xs M = none := by
  rw [rev16_moves hk] at h
  exact Jb.run_pre h (List.take_prefix _ _)
theorem bk_any (F T : Int) (w : World) :
    Calls Try.prog 70 #[.agg #[.int .i64 F, .int .i64 T]] w fun e w' => e = .returned (.agg #[.int .i64 T, .int .i64 F]) ∧ Below w.heap.size w w' := by
  go_enter Try.func70, Try.ntmps70
  have hB : Below w.heap.size w ((w.alloc (.cells #[.int .i64 F, .int .i64 T] 41)).alloc (.cells #[.int .i64 T, .int .i64 F] 41)) := ((Below.refl _ w).alloc (Nat.le_refl _) _).alloc (by simp) _
  go_wp2_with fail
  exact bodyPost_ret (v := .agg #[.int .i64 T, .int .i64 F]) (by simp [results, Try.results70, go_sem]) rfl ⟨rfl, hB⟩
set_option maxRecDepth 100000 in
set_option maxHeartbeats 4000000 in
theorem st_in {b off n c m d : Nat} {am : Option Addr} {vw vl : Value} {f : Int} {xs : List Int} {M : List (Int × Int)} {w : World} (hx : xs.length = n) (h1 : 1 ≤ n) (hn : n ≤ 9) (hb : b < w.heap.size) (ha : ∀ i, i < xs.length → w.cell? ⟨b, off + i, none⟩ = some (.int .i64 (xs.getD i 0))) (hm : M.length = m) (hm6 : m ≤ 60) (hM : FRow w am M) :
    CallsIn Fence.wide 5 Try.prog 51 #[.agg #[.slice (some ⟨b, off, none⟩) n c, vw, vl, .slice am m d, .int .i64 f]] w fun e w' => ∃ v, e = .returned (.tuple #[v, .bool (Jb.stB xs M)]) ∧ Below w.heap.size w w' ∧ AV w' w.heap.size w'.heap.size v (Jb.stL xs M).length (Jb.stL xs M) := by
  refine callsIn_of_wp_marks Try.func51 rfl trivial ?_ rfl
  simp only [Try.ntmps51, List.size_toArray, List.length_cons, List.length_nil, Nat.reduceAdd, Nat.reduceSub, Array.replicate_succ, Array.replicate_zero, List.push_toArray, List.append_toArray, List.nil_append, List.cons_append]
  gi_wp2_with fail
  have hsz0 : w.heap.size + 1 + 1 < (((w.alloc (.cells #[.slice (some ⟨b, off, none⟩) n c, vw, vl, .slice am m d, .int .i64 f] 25)).alloc (.cells #[.slice none 0 0] 22)).alloc (.cells #[.bool false] 4)).heap.size := by simp
  have hB0 : Below w.heap.size w (((w.alloc (.cells #[.slice (some ⟨b, off, none⟩) n c, vw, vl, .slice am m d, .int .i64 f] 25)).alloc (.cells #[.slice none 0 0] 22)).alloc (.cells #[.bool false] 4)) := (((Below.refl _ w).alloc (Nat.le_refl _) _).alloc (by simp) _).alloc (by simp; omega) _
  have cj0 : (((w.alloc (.cells #[.slice (some ⟨b, off, none⟩) n c, vw, vl, .slice am m d, .int .i64 f] 25)).alloc (.cells #[.slice none 0 0] 22)).alloc (.cells #[.bool false] 4)).cell? ⟨w.heap.size, 3, none⟩ = some (.slice am m d) := by simp [go_sem]
  have bR1 : Boxed (((w.alloc (.cells #[.slice (some ⟨b, off, none⟩) n c, vw, vl, .slice am m d, .int .i64 f] 25)).alloc (.cells #[.slice none 0 0] 22)).alloc (.cells #[.bool false] 4)) (w.heap.size + 1) 22 (.slice none 0 0) := by
    have h := (Boxed.new (w.alloc (.cells #[.slice (some ⟨b, off, none⟩) n c, vw, vl, .slice am m d, .int .i64 f] 25)) 22 (.slice none 0 0)).alloc (.cells #[.bool false] 4)
    rwa [World.size_alloc] at h
  have bR2 : Boxed (((w.alloc (.cells #[.slice (some ⟨b, off, none⟩) n c, vw, vl, .slice am m d, .int .i64 f] 25)).alloc (.cells #[.slice none 0 0] 22)).alloc (.cells #[.bool false] 4)) (w.heap.size + 1 + 1) 4 (.bool false) := by
    have h := Boxed.new ((w.alloc (.cells #[.slice (some ⟨b, off, none⟩) n c, vw, vl, .slice am m d, .int .i64 f] 25)).alloc (.cells #[.slice none 0 0] 22)) 4 (.bool false)
    rwa [World.size_alloc, World.size_alloc] at h
  have HCL := clone_any (c := c) hx (show n ≤ 1000 by omega) (w := ((w.alloc (.cells #[.slice (some ⟨b, off, none⟩) n c, vw, vl, .slice am m d, .int .i64 f] 25)).alloc (.cells #[.slice none 0 0] 22)).alloc (.cells #[.bool false] 4)) (b := b) (o := off) (fun i hi => (hB0.cell (p := ⟨b, off + i, none⟩) hb).trans (ha i hi))
  generalize ((w.alloc (.cells #[.slice (some ⟨b, off, none⟩) n c, vw, vl, .slice am m d, .int .i64 f] 25)).alloc (.cells #[.slice none 0 0] 22)).alloc (.cells #[.bool false] 4) = W0 at *
  refine ⟨trivial, ?_⟩
  refine (callsIn_wide.2 HCL).mono ?_
  rintro e w1 ⟨v, rfl, hb1, own1⟩
  obtain ⟨g, cap, rfl, hg0, hg1⟩ := own_some10 own1 (by omega)
  clear HCL
  have hz1 : w.heap.size + 1 + 1 < w1.heap.size := Nat.lt_of_lt_of_le hsz0 hb1.size
  have cj1 : w1.cell? ⟨w.heap.size, 3, none⟩ = some (.slice am m d) := (hb1.cell (p := ⟨w.heap.size, 3, none⟩) (show w.heap.size < W0.heap.size by omega)).trans cj0
  have bA := below_new w1 (.cells #[.slice (some ⟨g, 0, none⟩) n cap] 22)
  have cj2 : (w1.alloc (.cells #[.slice (some ⟨g, 0, none⟩) n cap] 22)).cell? ⟨w.heap.size, 3, none⟩ = some (.slice am m d) := (bA.cell (p := ⟨w.heap.size, 3, none⟩) (show w.heap.size < w1.heap.size by omega)).trans cj1
  have hne1 : ¬ w.heap.size = w1.heap.size := by omega
  gi_wp2_with fail
  refine ⟨trivial, ?_⟩
  refine (callsIn_wide.2 (bwd_any am m d _)).mono ?_
  rintro e w3 ⟨rfl, hw3⟩
  have hA1 : w1.heap.size < w3.heap.size := by rw [hw3]; simp; omega
  have hA2 : w3.heap.size = w1.heap.size + 1 + 1 := by rw [hw3]; simp
  have hgA : g < w1.heap.size := hg1
  have hgR : w.heap.size + 1 + 1 < g := by omega
  have hgw : w.heap.size ≤ g := by have := hB0.size; omega
  have b13 : Below w1.heap.size w1 w3 := by rw [hw3]; exact bA.trans ((below_new _ _).mono bA.size)
  have hB3 : Below w.heap.size w w3 := (hB0.trans (hb1.mono hB0.size)).trans (b13.mono (by omega))
  have bR13 : Boxed w3 (w.heap.size + 1) 22 (.slice none 0 0) := (b13.block _ (by omega)).trans ((hb1.block _ (by omega)).trans bR1)
  have bR23 : Boxed w3 (w.heap.size + 1 + 1) 4 (.bool false) := (b13.block _ (by omega)).trans ((hb1.block _ (by omega)).trans bR2)
  have bA3 : Boxed w3 w1.heap.size 22 (.slice (some ⟨g, 0, none⟩) n cap) := by
    rw [hw3]; exact (Boxed.new w1 22 (.slice (some ⟨g, 0, none⟩) n cap)).alloc _
  have cS3 : w3.cell? ⟨w1.heap.size + 1, 0, none⟩ = some (.slice am m d) := by
    rw [hw3]
    have h := (Boxed.new (w1.alloc (.cells #[.slice (some ⟨g, 0, none⟩) n cap] 22)) 23 (.slice am m d)).cell
    rwa [World.size_alloc] at h
  have own3 : w3.ownsRow w.heap.size 3 1 (.slice (some ⟨g, 0, none⟩) n cap) n (ints xs) := owns_low (own_below own1 b13) hB0.size
  have hMc : ∀ j, j < m → ∃ b' o, am = some ⟨b', o, none⟩ ∧ (b' = w1.heap.size + 1 ∨ ∃ o', am = some ⟨b', o', none⟩) ∧ w3.cell? ⟨b', o + j * 2, none⟩ = some (.int .i64 (M.getD j (0, 0)).1) ∧ w3.cell? ⟨b', o + j * 2 + 1, none⟩ = some (.int .i64 (M.getD j (0, 0)).2) := fun j hj => by
    obtain ⟨b', o, e, hl, r0, r1⟩ := hM.at (i := j) (by omega)
    exact ⟨b', o, e, Or.inr ⟨o, e⟩, (hB3.cell (p := ⟨b', o + j * 2, none⟩) hl).trans r0, (hB3.cell (p := ⟨b', o + j * 2 + 1, none⟩) hl).trans r1⟩
  have hML : ∀ k, (k = w1.heap.size + 1 ∨ (0 < m ∧ ∃ o', am = some ⟨k, o', none⟩)) → k < w3.heap.size ∧ k ≠ g := fun k hk => by
    rcases hk with rfl | ⟨h0, o', e⟩
    · omega
    · obtain ⟨b', o, e', hl, _⟩ := hM.at (i := 0) (by omega)
      rw [e] at e'
      cases e'
      omega
  have hMc' : ∀ j, j < m → ∃ b' o, am = some ⟨b', o, none⟩ ∧ (b' = w1.heap.size + 1 ∨ (0 < m ∧ ∃ o', am = some ⟨b', o', none⟩)) ∧ w3.cell? ⟨b', o + j * 2, none⟩ = some (.int .i64 (M.getD j (0, 0)).1) ∧ w3.cell? ⟨b', o + j * 2 + 1, none⟩ = some (.int .i64 (M.getD j (0, 0)).2) := fun j hj => by
    obtain ⟨b', o, e, h, r⟩ := hMc j hj
    rcases h with h | h
    · exact ⟨b', o, e, Or.inl h, r⟩
    · exact ⟨b', o, e, Or.inr ⟨by omega, h⟩, r⟩
  clear hMc hM ha bR1 bR2 hw3 own1 cj0 cj1 cj2 bA b13 hb1
  gi_wp2_with fail
  obtain ⟨pk, hpk⟩ : ∃ p : Nat → Prop, p = fun k => (k = w1.heap.size + 1 ∨ (0 < m ∧ ∃ o', am = some ⟨k, o', none⟩)) := ⟨_, rfl⟩
  have hpS : pk (w1.heap.size + 1) := by rw [hpk]; exact Or.inl rfl
  have hpl : ∀ k, pk k → k < w3.heap.size ∧ k ≠ g := fun k hk => by rw [hpk] at hk; exact hML k hk
  have hpc : ∀ j, j < m → ∃ b' o, am = some ⟨b', o, none⟩ ∧ pk b' ∧ w3.cell? ⟨b', o + j * 2, none⟩ = some (.int .i64 (M.getD j (0, 0)).1) ∧ w3.cell? ⟨b', o + j * 2 + 1, none⟩ = some (.int .i64 (M.getD j (0, 0)).2) := fun j hj => by
    obtain ⟨b', o, e, h, r⟩ := hMc' j hj
    exact ⟨b', o, e, by rw [hpk]; exact h, r⟩
  clear hMc' hML hpk
  refine wpIn_rangeFunc_ownH rfl (show 1 ≤ 5 by omega) (gf := 88) (lb := #[.pointer (some ⟨w1.heap.size + 1, 0, none⟩)]) rfl trivial (enters_of Try.func88 (by kernel_rfl) rfl)
    (bw_stops Fence.wide 4 trivial rfl (by omega) pk (w1.heap.size + 1) m d am M hm (by omega) w3 (fun k hk => (hpl k hk).1) hpS cS3 hpc) KpB.trans (KpB.put (fun k hk => (hpl k hk).1)) (Below.refl _ _) (fun _ => rfl)
    (fun pre W => (Boxed W (w.heap.size + 1) 22 (.slice none 0 0) ∧ Boxed W (w.heap.size + 1 + 1) 4 (.bool false) ∧ Boxed W w1.heap.size 22 (.slice (some ⟨g, 0, none⟩) n cap)) ∧ (∃ vs, (∃ ys : List Int, vs = ints ys ∧ ys.length = n ∧ Mx.run xs (pre.map fun x => Jb.bk x.2) = some ys) ∧ W.ownsRow w.heap.size 3 1 (.slice (some ⟨g, 0, none⟩) n cap) n vs) ∧ w3.heap.size ≤ W.heap.size ∧ Below w.heap.size w W)
    (fun c pre W => (c = .ret ∧ Mx.run xs (pre.map fun x => Jb.bk x.2) = none) ∧ (Boxed W (w.heap.size + 1) 22 (.slice none 0 0) ∧ Boxed W (w.heap.size + 1 + 1) 4 (.bool false)) ∧ Below w.heap.size w W)
    (OwnFrom.and (OwnFrom.and (Own.from (boxed_own _ _ (fun _ => _)) _) (OwnFrom.and (Own.from (boxed_own _ _ (fun _ => _)) _) (Own.from (boxed_own _ _ (fun _ => _)) _))) (OwnFrom.and (own_row16 _ _ _ _ _ _ _) (OwnFrom.and (fun _ _ _ _ hs hg _ => Nat.le_trans hs hg.size) (ownFrom_below (Nat.le_refl _) hB3.size))))
    (fun c => OwnFrom.and (ownFrom_pure _ _) (OwnFrom.and (OwnFrom.and (Own.from (boxed_own _ _ (fun _ => _)) _) (Own.from (boxed_own _ _ (fun _ => _)) _)) (ownFrom_below (Nat.le_refl _) hB3.size)))
    ⟨⟨bR13, bR23, bA3⟩, ⟨_, ⟨xs, rfl, hx, rfl⟩, own3⟩, Nat.le_refl _, hB3⟩
    (fun x a' W => ∃ Bx, w3.heap.size ≤ Bx ∧ Bx < W.heap.size ∧ (W.cell? ⟨Bx, 0, none⟩ = some (.int .i64 x.2.1) ∧ W.cell? ⟨Bx, 1, none⟩ = some (.int .i64 x.2.2)) ∧ a' = { tmps := #[.agg #[.slice (some ⟨b, off, none⟩) n c, vw, vl, .slice am m d, .int .i64 f], .pointer (some ⟨w.heap.size, 0, none⟩), .pointer (some ⟨w.heap.size + 1, 0, none⟩), .pointer (some ⟨w.heap.size + 1 + 1, 0, none⟩), .pointer (some ⟨w1.heap.size, 0, none⟩), undef, .pointer (some ⟨Bx, 0, none⟩), undef, .pointer (some ⟨w.heap.size, 0, none⟩), .slice (some ⟨b, off, none⟩) n c, .slice (some ⟨g, 0, none⟩) n cap, .pointer (some ⟨w.heap.size, 3, none⟩), .slice am m d, .func (.func 88) #[] #[.pointer (some ⟨w1.heap.size + 1, 0, none⟩)], .int .i64 (x.1 : Int), .agg #[.int .i64 x.2.1, .int .i64 x.2.2], undef, undef, undef, undef, undef, undef, undef, undef, undef, undef], defers := [] })
    (fun x a' _ X Y row hs hg hr => by obtain ⟨Bx, h1, h2, h3, h4⟩ := hs; exact ⟨Bx, h1, Nat.lt_of_lt_of_le h2 hg.size, cell2_own16 _ Bx _ _ () X Y row h3 hg hr, h4⟩)
    ?assign ?body ?done ?stop
  case assign =>
    rintro l pre ⟨pos, F, T⟩ W K ⟨⟨q1, q2, q3⟩, ⟨vs, hv, own⟩, hsW, hB⟩ hK
    dsimp only [enc16]
    gi_wp2
    exact hK _ _ ((KeepsOthers.alloc _ _).from _) (KpB.below (fun k hk => Nat.lt_of_lt_of_le (hpl k hk).1 hsW) (below_new _ _)) ⟨⟨q1.alloc _, q2.alloc _, q3.alloc _⟩, ⟨vs, hv, own.alloc _⟩, by simp; omega, hB.alloc hB.size _⟩ ⟨W.heap.size, hsW, by simp, ⟨by simp [go_sem], by simp [go_sem]⟩, rfl⟩
  case body =>
    rintro l pre ⟨pos, F, T⟩ a' W hl ⟨r, hr⟩ ⟨⟨q1, q2, q3⟩, ⟨_, ⟨ys, rfl, hy, hrun⟩, own⟩, hsW, hB⟩ ⟨Bx, hBx, hBx2, ⟨c0, c1⟩, rfl⟩ hlt
    simp only at c0 c1
    gi_wp2_with fail
    refine ⟨trivial, ?_⟩
    refine (CallsIn.inRound l (callsIn_wide.2 (bk_any F T W))).mono ?_
    rintro e W1 ⟨rfl, hb⟩
    have hz := hb.size
    have p1 : Boxed W1 _ _ _ := (hb.block _ q1.lt).trans q1
    have p2 : Boxed W1 _ _ _ := (hb.block _ q2.lt).trans q2
    have p3 : Boxed W1 _ _ _ := (hb.block _ q3.lt).trans q3
    have own2 := own_below own hb
    have hbN := below_new W1 (.cells #[.int .i64 T, .int .i64 F] 41)
    have c3 := (p3.alloc (.cells #[.int .i64 T, .int .i64 F] 41)).cell
    have p1' := p1.alloc (.cells #[.int .i64 T, .int .i64 F] 41)
    have p2' := p2.alloc (.cells #[.int .i64 T, .int .i64 F] 41)
    have p3' := p3.alloc (.cells #[.int .i64 T, .int .i64 F] 41)
    have cb0 : (W1.alloc (.cells #[.int .i64 T, .int .i64 F] 41)).cell? ⟨W1.heap.size, 0, none⟩ = some (.int .i64 T) := by simp [go_sem]
    have cb1 : (W1.alloc (.cells #[.int .i64 T, .int .i64 F] 41)).cell? ⟨W1.heap.size, 1, none⟩ = some (.int .i64 F) := by simp [go_sem]
    have own2' := own2.alloc (.cells #[.int .i64 T, .int .i64 F] 41)
    have hHb := hb.trans (hbN.mono hz)
    have hne : ¬ W1.heap.size = w1.heap.size := by omega
    have hne' : ¬ w1.heap.size = W1.heap.size := by omega
    have c3' := p3.cell
    gi_wp2_with fail
    refine ⟨trivial, ?_⟩
    refine (CallsIn.inRound l (callsIn_wide.2 (cm_any (c := cap) (F := T) (T := F) hy (by omega) (by omega) (arow_owns hy.symm own2')))).mono ?_
    rintro e W3 ⟨rfl, hb3⟩
    have hN : (W1.alloc (.cells #[.int .i64 T, .int .i64 F] 41)).heap.size = W1.heap.size + 1 := World.size_alloc _ _
    generalize W1.alloc (.cells #[.int .i64 T, .int .i64 F] 41) = W2 at *
    have hz3 := hb3.size
    have hHb3 := hHb.trans (hb3.mono (by omega))
    have u1 : Boxed W3 _ _ _ := (hb3.block _ p1'.lt).trans p1'
    have u2 : Boxed W3 _ _ _ := (hb3.block _ p2'.lt).trans p2'
    have u3 : Boxed W3 _ _ _ := (hb3.block _ p3'.lt).trans p3'
    have d0 := (hb3.cell (p := ⟨W1.heap.size, 0, none⟩) (show W1.heap.size < W2.heap.size by omega)).trans cb0
    have d1 := (hb3.cell (p := ⟨W1.heap.size, 1, none⟩) (show W1.heap.size < W2.heap.size by omega)).trans cb1
    have own3' := own_below own2' hb3
    have k1 := u1.cell
    have k2 := u2.cell
    have k3 := u3.cell
    have f1 := u1.frozen
    have f2 := u2.frozen
    have hsn := Jb.run_snoc (m := Jb.bk (F, T)) hrun
    have hrn : Mx.run xs ((pre ++ [(pos, F, T)]).map fun x => Jb.bk x.2) = if Mx.canB ys (T, F) then some (Mx.mv ys (T, F)) else none := by rw [List.map_append]; exact hsn
    clear hsn hrun own own2 own2' cb0 cb1 c3 c3' p1' p2' p3' hb hbN
    have hin := fun h : Mx.canB ys (T, F) = true => Mx.can_in h
    cases hcn : Mx.canB ys (T, F)
    · rw [hcn] at hrn
      clear hcn hin
      gi_wp2_with fail
      exact ⟨(keeps_below16 hHb3).trans (((KeepsOthers.setCell _ _ _).from _).trans ((KeepsOthers.setCell _ _ _).from _)), ⟨rfl, by simpa using hrn⟩, ⟨(u1.set _).other (by omega) _, (u2.other (by omega) _).set _⟩,
        ((hB.trans (hHb3.mono hB.size)).setCell (p := ⟨w.heap.size + 1, 0, none⟩) (by show w.heap.size ≤ w.heap.size + 1; omega) _).setCell (p := ⟨w.heap.size + 1 + 1, 0, none⟩) (by show w.heap.size ≤ w.heap.size + 1 + 1; omega) _⟩
    · rw [hcn] at hrn
      obtain ⟨⟨a1, a2⟩, ⟨a3, a4⟩, _, _⟩ := hin hcn
      clear hcn hin
      obtain ⟨t', rfl⟩ := Int.eq_ofNat_of_zero_le a1
      obtain ⟨f', rfl⟩ := Int.eq_ofNat_of_zero_le a3
      have hmg := mg_any (f := t') (t := f') hy (by omega) (by omega) own3'
      clear a1 a2 a3 a4
      gi_wp2_with fail
      refine ⟨trivial, ?_⟩
      refine (CallsIn.inRound l (callsIn_wide.2 hmg)).mono ?_
      rintro e W4 ⟨rfl, own4, hg4⟩
      clear hmg
      gi_wp2_with fail
      exact ⟨(keeps_below16 hHb3).trans (KeepsFrom.of_grownBy hg4 (fun j e => by cases e; omega)), (KpB.below (fun k hk => Nat.lt_of_lt_of_le (hpl k hk).1 hsW) hHb3).trans (KpB.grown (fun k hk => ⟨by have := (hpl k hk).1; omega, fun e => (hpl k hk).2 (by cases e; rfl)⟩) hg4),
        ⟨u1.kept hg4 (fun e => by cases e; omega), u2.kept hg4 (fun e => by cases e; omega), u3.kept hg4 (fun e => by cases e; omega)⟩, ⟨_, ⟨_, rfl, by rw [Mx.mv_len]; exact hy, by simpa using hrn⟩, own4⟩, by have := hg4.size; omega,
        (hB.trans (hHb3.mono hB.size)).trans (grown_under10 hg4 (fun b e => by cases e; exact hgw) (by omega))⟩
  case done =>
    rintro D zs W hD rfl ⟨⟨q1, q2, q3⟩, ⟨_, ⟨ys, rfl, hy, hrun⟩, own⟩, hsW, hB⟩ hK
    have c1 := q1.cell
    have c2 := q2.cell
    have c3 := q3.cell
    have f1 := q1.frozen
    have f2 := q2.frozen
    gi_wp2
    have t1 := ((q1.set (.slice (some ⟨g, 0, none⟩) n cap)).other (B' := w.heap.size + 1 + 1) (by omega) (.bool true))
    have t2 := ((q2.other (B' := w.heap.size + 1) (by omega) (.slice (some ⟨g, 0, none⟩) n cap)).set (.bool true))
    have own5 := own_keep2 (own_keep2 own (w' := W.setCell ⟨w.heap.size + 1, 0, none⟩ (.slice (some ⟨g, 0, none⟩) n cap)) (fun k e hl => (grownBy_setCell' W _ _).block k hl (ne16 e (by omega)))) (w' := (W.setCell ⟨w.heap.size + 1, 0, none⟩ (.slice (some ⟨g, 0, none⟩) n cap)).setCell ⟨w.heap.size + 1 + 1, 0, none⟩ (.bool true)) (fun k e hl => (grownBy_setCell' _ _ _).block k hl (ne16 e (by omega)))
    have hK' := ((KeepsOthers.setCell W ⟨w.heap.size + 1, 0, none⟩ (.slice (some ⟨g, 0, none⟩) n cap)).trans (KeepsOthers.setCell _ ⟨w.heap.size + 1 + 1, 0, none⟩ (.bool true))).same D _ hK rfl
    have hBe := (hB.setCell (p := ⟨w.heap.size + 1, 0, none⟩) (by show w.heap.size ≤ w.heap.size + 1; omega) (.slice (some ⟨g, 0, none⟩) n cap)).setCell (p := ⟨w.heap.size + 1 + 1, 0, none⟩) (by show w.heap.size ≤ w.heap.size + 1 + 1; omega) (.bool true)
    refine ⟨by simp, .inl ⟨_, _, rfl, run_takeDeferred hK', ?_⟩⟩
    have hc5 := cell_kept t1.cell (grownBy_putObj' _ D (.deferred none)) (fun r e => by cases e; exact ⟨_, hK', rfl⟩)
    have hc6 := cell_kept t2.cell (grownBy_putObj' _ D (.deferred none)) (fun r e => by cases e; exact ⟨_, hK', rfl⟩)
    obtain ⟨e1, e2⟩ := Jb.st_yes (st_all16 hm hrun)
    refine ⟨.tuple #[.slice (some ⟨g, 0, none⟩) n cap, .bool true], ?_, .slice (some ⟨g, 0, none⟩) n cap, by rw [e1], hBe.trans (belowK_b (w := w) (Nat.le_refl _) _ D _ _ (by have := hB3.size; omega) hK' rfl rfl), ?_⟩
    · simp [results, Try.f51, go_sem, hc5, hc6]
    · rw [e2, hy]
      exact AV.new (ownsRow_putObj own5 _ hK' rfl)
  case stop =>
    rintro D c' pre W hD ⟨k, hk, rfl⟩ ⟨⟨rfl, hrun⟩, ⟨q1, q2⟩, hB⟩ hK
    gi_wp2
    refine ⟨by simp, .inl ⟨_, _, rfl, run_takeDeferred hK, ?_⟩⟩
    have hc5 := cell_kept q1.cell (grownBy_putObj' _ D (.deferred none)) (fun r e => by cases e; exact ⟨_, hK, rfl⟩)
    have hc6 := cell_kept q2.cell (grownBy_putObj' _ D (.deferred none)) (fun r e => by cases e; exact ⟨_, hK, rfl⟩)
    obtain ⟨e1, e2⟩ := Jb.st_no (st_part16 (by omega) hrun)
    refine ⟨.tuple #[.slice none 0 0, .bool false], ?_, .slice none 0 0, by rw [e1], hB.trans (belowK_b (w := w) (Nat.le_refl _) _ D _ _ (by have := hB3.size; omega) hK rfl rfl), ?_⟩
    · simp [results, Try.f51, go_sem, hc5, hc6]
    · rw [e2]
      exact av_nil _ _
theorem st_any {a am : Option Addr} {n c m d : Nat} {vw vl : Value} {f : Int} {xs : List Int} {M : List (Int × Int)} {w : World} (hx : xs.length = n) (h1 : 1 ≤ n) (hn : n ≤ 9) (ha : ARow w a xs) (hm : M.length = m) (hm6 : m ≤ 60) (hM : FRow w am M) :
    Calls Try.prog 51 #[.agg #[.slice a n c, vw, vl, .slice am m d, .int .i64 f]] w fun e w' => ∃ v, e = .returned (.tuple #[v, .bool (Jb.stB xs M)]) ∧ Below w.heap.size w w' ∧ AV w' w.heap.size w'.heap.size v (Jb.stL xs M).length (Jb.stL xs M) := by
  obtain ⟨b, off, rfl, hb, hc⟩ := ha.resolve_left (fun e => by rw [e] at hx; simp at hx; omega)
  exact callsIn_wide.1 (st_in hx h1 hn hb hc hm hm6 hM)
end Go.Proofs.Ytnjkdfeajlnojaa
namespace Go.Proofs.Ytnjkdfeajlnojaa
open Go.RowKit Go.Shelf

attribute [local go_sem] Oper.semAt_some

/-- The first k of some numbers. -/
def fst10 (zs : List Int) (k : Nat) : List Int := (List.range k).map fun j => zs[j]?.getD 0
theorem fst10_succ (zs : List Int) (k : Nat) : fst10 zs (k + 1) = fst10 zs k ++ [zs[k]?.getD 0] := by simp [fst10, List.range_succ]
theorem fst10_len (zs : List Int) (k : Nat) : (fst10 zs k).length = k := by simp [fst10]
theorem fst10_all (zs : List Int) : fst10 zs zs.length = zs := by
  apply List.ext_getElem
  · simp [fst10]
  · intro i h1 h2
    simp [fst10, h2]
set_option maxRecDepth 100000 in
set_option maxHeartbeats 2000000 in
theorem vals1_in (F : Fence) (n : Nat) (h7 : F.fn 87) (hro : F.round = none) (hn : 1 ≤ n) (l Bs n₀ b off len cap : Nat) (zs : List Int) (hreach : len * 8 ≤ 140737488351232) (hb : b < n₀) (J Jx : List Int → World → Prop)
    (hY : ∀ pre x W, J pre W → pre.length < len → YieldAt F (n - 1) Try.prog l #[.int .i64 x] W fun e W' =>
      (e = .returned (.bool true) ∧ J (pre ++ [x]) W' ∧ Below n₀ W W') ∨ (e = .returned (.bool false) ∧ Jx (pre ++ [x]) W'))
    (W : World) (hBs : W.cell? ⟨Bs, 0, none⟩ = some (.slice (some ⟨b, off, none⟩) len cap)) (hc : ∀ j, j < len → W.cell? ⟨b, off + j, none⟩ = some (.int .i64 (zs[j]?.getD 0))) (h0 : J [] W) :
    CallsIn F n Try.prog 87 #[.func (.yield l) #[] #[], .pointer (some ⟨Bs, 0, none⟩)] W fun e W' => (∃ v, e = .returned v) ∧
      ((∃ ys, ys = fst10 zs len ∧ J ys W') ∨ (∃ pre, (∃ k, k ≤ len ∧ pre = fst10 zs k) ∧ Jx pre W')) := by
  refine callsIn_of_wp Try.func87 rfl h7 ?_ hro
  simp only [Try.ntmps87, List.size_toArray, List.length_cons, List.length_nil, Nat.reduceAdd, Nat.reduceSub, Array.replicate_succ, Array.replicate_zero, List.push_toArray, List.append_toArray, List.nil_append, List.cons_append]
  gi_wp2
  gi_loopw [7] (fun i wr => ∃ k : Nat, k ≤ len ∧ i = .int .i64 k ∧ J (fst10 zs k) wr ∧ Below n₀ W wr)
    (fun i _ => len - (intOf i).toNat)
  case atStart => exact ⟨0, Nat.zero_le _, rfl, h0, Below.refl _ _⟩
  case round =>
    obtain ⟨k, hk, rfl, hJs, hnx⟩ := hrel
    have hcx : k < len → wr.cell? ⟨b, off + k, none⟩ = some (.int .i64 (zs[k]?.getD 0)) := fun h => (hnx.cell (p := ⟨b, off + k, none⟩) hb).trans (hc k h)
    by_cases hlt : k < len
    · obtain ⟨fn, tmps, assign, body, hy, hR⟩ := hY _ (zs[k]?.getD 0) wr hJs (by rw [fst10_len]; exact hlt)
      have hcx' := hcx hlt
      gi_wp2
      refine hR.mono ?_
      rintro e W3 (⟨rfl, hJ3, hk3⟩ | ⟨rfl, hJx3⟩)
      · gi_wp2
        go_roundw
        case rel => exact ⟨k + 1, by omega, by simp, by rw [fst10_succ]; exact hJ3, hnx.trans hk3⟩
        case measure => simp [intOf]; omega
      · gi_wp2
        refine bodyPost_ret (results_none rfl _ _ _) rfl ?_
        exact ⟨⟨_, rfl⟩, .inr ⟨_, ⟨k + 1, by omega, (fst10_succ _ _).symm⟩, hJx3⟩⟩
    · obtain rfl : k = len := by omega
      gi_wp2
      go_end0
      exact ⟨⟨_, rfl⟩, .inl ⟨_, rfl, hJs⟩⟩
theorem vals_stops (F : Fence) (n : Nat) (h7 : F.fn 87) (hro : F.round = none) (hn : 1 ≤ n) (Bs n₀ b off cap : Nat) (zs : List Int) (hreach : zs.length * 8 ≤ 140737488351232) (w : World) (hBs : Bs < w.heap.size) (hn₀ : n₀ ≤ w.heap.size) (hb : b < n₀)
    (hc : w.cell? ⟨Bs, 0, none⟩ = some (.slice (some ⟨b, off, none⟩) zs.length cap)) (hI : ∀ j, j < zs.length → w.cell? ⟨b, off + j, none⟩ = some (.int .i64 (zs[j]?.getD 0))) :
    SeqStopsK F n Try.prog 87 #[.pointer (some ⟨Bs, 0, none⟩)] (fun x : Int => #[Value.int .i64 x]) (Below n₀) (fun ys => ys = zs) (fun _ => True) zs.length w := fun l J Jx W hW _ _ hY h0 => by
  have hc' := (hW.cell (p := ⟨Bs, 0, none⟩) hBs).trans hc
  refine (vals1_in F n h7 hro hn l Bs n₀ b off zs.length cap zs hreach hb J Jx hY W hc' (fun j hj => (hW.cell (p := ⟨b, off + j, none⟩) (Nat.lt_of_lt_of_le hb hn₀)).trans (hI j hj)) h0).mono ?_
  rintro e W' ⟨he, ⟨ys, rfl, hj⟩ | ⟨pre, _, hj⟩⟩
  · exact ⟨he, .inl ⟨_, fst10_all zs, hj⟩⟩
  · exact ⟨he, .inr ⟨_, trivial, hj⟩⟩
theorem infoI10 : (Try.prog.info? 3).map (fun i => (i.zero, i.size, i.bytes)) = some (some (.int .i64 0), 1, 8) := by kernel_rfl
set_option maxRecDepth 100000 in
set_option maxHeartbeats 2000000 in
theorem seq_in (F : Fence) (n : Nat) (h3 : F.fn 95) (h5 : F.fn 87) (hro : F.round = none) (hn : 3 ≤ n) (Bs b off cap : Nat) (xs : List Int) (hlen : xs.length ≤ 1000) (w : World) (hBs : Bs < w.heap.size) (hb : b < w.heap.size)
    (hc : w.cell? ⟨Bs, 0, none⟩ = some (.slice (some ⟨b, off, none⟩) xs.length cap)) (hI : ∀ j, j < xs.length → w.cell? ⟨b, off + j, none⟩ = some (.int .i64 (xs[j]?.getD 0))) :
    CallsIn F n Try.prog 95 #[.slice none 0 0, .func (.func 87) #[] #[.pointer (some ⟨Bs, 0, none⟩)]] w fun e W' => ∃ v, e = .returned v ∧ W'.ownsRow w.heap.size 3 1 v xs.length (xs.map (Value.int .i64)) ∧ Below w.heap.size w W' := by
  have h1 : 1 ≤ n := by omega
  obtain ⟨i0, hi, hz0, hz1, hz2⟩ := info_parts infoI10
  refine callsIn_of_wp_marks Try.func95 rfl h3 ?_ hro
  simp only [Try.ntmps95, List.size_toArray, List.length_cons, List.length_nil, Nat.reduceAdd, Nat.reduceSub, Array.replicate_succ, Array.replicate_zero, List.push_toArray, List.append_toArray, List.nil_append, List.cons_append]
  gi_wp2
  have bO := Boxed.new w 22 (.slice none 0 0)
  have hB0 : Below w.heap.size w (w.alloc (.cells #[.slice none 0 0] 22)) := (Below.refl _ w).alloc (Nat.le_refl _) _
  refine wpIn_rangeFunc_ownG hro h1 (gf := 87) (lb := #[.pointer (some ⟨Bs, 0, none⟩)]) rfl h5 (enters_of Try.func87 (by kernel_rfl) rfl)
    (vals_stops F (n - 1) h5 hro (by omega) Bs w.heap.size b off cap xs (by omega) (w.alloc (.cells #[.slice none 0 0] 22)) (by simp; omega) (by simp) hb ((hB0.cell (p := ⟨Bs, 0, none⟩) hBs).trans hc) (fun j hj => (hB0.cell (p := ⟨b, off + j, none⟩) hb).trans (hI j hj))) belowK_t (belowK_b (by simp)) (Below.refl _ _) (fun _ => rfl)
    (fun pre W => (∃ v, Boxed W w.heap.size 22 v ∧ W.ownsRow w.heap.size 3 1 v pre.length (pre.map (Value.int .i64)) ∧ True) ∧ Below w.heap.size w W)
    (fun _ _ _ => False)
    (OwnFrom.and (Own.from (holdsRow_own w.heap.size w.heap.size 22 3 1 (fun pre => pre.length) (fun pre : List Int => pre.map (Value.int .i64)) (fun _ _ => True)) _) (ownFrom_below (Nat.le_refl _) (by simp)))
    (fun _ _ _ _ _ hs _ _ => hs)
    ⟨⟨_, bO, World.ownsRow_nil _ _ _ _, trivial⟩, hB0⟩
    (fun x => { tmps := #[.slice none 0 0, .func (.func 87) #[] #[.pointer (some ⟨Bs, 0, none⟩)], .pointer (some ⟨w.heap.size, 0, none⟩), undef, .slice none 0 0, .int .i64 x, .func (.func 87) #[] #[.pointer (some ⟨Bs, 0, none⟩)], .int .i64 x, undef, undef, undef, undef, undef], defers := [] }) ?assign ?body ?done ?stop
  case assign =>
    intro l x W K hK
    gi_wp2
    exact hK
  case body =>
    rintro l pre x W ⟨⟨v, hv, hrow, _⟩, hB⟩ hlt
    have hc := hv.cell
    gi_wp2_with (gi_at_builtin; refine wpListIn_append_own _ rfl _ _ 22 rfl w.heap.size 3 i0 (.int .i64 0) 1 8 Try.underlying22 hi hz0 hz1 hz2 rfl (by decide) _ _ _ rfl (hrow.alloc _) ⟨W.heap.size, 0, none⟩ 1 1 [.int .i64 x] rfl rfl (cell_one_new _ _ _) (by simp [Value.oneCell']) (by unfold maxLen; omega) (by omega) (by have := hB.size; simp; omega) ?_; intro v' w1 hown' hgrow _; obtain ⟨g', cap', rfl⟩ := ownsRow_succ hown'; obtain ⟨hv1, hv2, hr2, hk2, hb2⟩ := hv.appended (by decide) hrow hB.size (Nat.le_refl _) hown' hgrow; have hc1 := hv1.cell; have hf1 := hv1.frozen)
    exact ⟨hk2.from _, hb2, ⟨_, hv2, by simpa using hr2, trivial⟩, hB.trans hb2⟩
  case done =>
    rintro D ys W hD rfl ⟨⟨v, hv, hrow, _⟩, hB⟩ hK
    have hc := hv.cell
    gi_wp2
    refine ⟨by simp, .inl ⟨_, _, rfl, run_takeDeferred hK, ?_⟩⟩
    exact ⟨_, results_tmp rfl _ _ _, v, rfl, ownsRow_putObj hrow _ hK rfl, hB.trans (belowK_b (w := w) (Nat.le_refl _) W D _ _ (by simp at hD; omega) hK rfl rfl)⟩
  case stop =>
    rintro D c pre W _ _ h _
    exact h.elim
end Go.Proofs.Ytnjkdfeajlnojaa
namespace Go.Proofs.Ytnjkdfeajlnojaa
open Go.RowKit Go.Sort

theorem so10 {w : World} {base n : Nat} {v : Value} {L X : List Int} (hn : L.length = n) (hl : n ≤ 1000) (own : w.ownsRow base 3 1 v n (ints L)) (hs : (L.mergeSort fun x y => decide (x ≤ y)) = X) :
    Calls Try.prog 86 #[v] w fun e w' => e = .returned (.tuple #[]) ∧ w'.ownsRow base 3 1 v X.length (ints X) ∧ w.grownBy w' v.ownBlock := by
  subst hn
  have hl2 : (L.mergeSort fun x y => decide (x ≤ y)).length = L.length := List.length_mergeSort L
  rcases own.2 with ⟨rfl, h0⟩ | ⟨g, cap, cur, rfl, hb, hg, h1, h2, h3, h4⟩
  · have hL : L = [] := List.length_eq_zero_iff.1 h0
    subst hL
    have hX : X = [] := by rw [← hs]; simp
    subst hX
    refine (Try.slices_Sort_int_none none 0 w).mono ?_
    rintro e w' ⟨rfl, rfl⟩
    exact ⟨rfl, World.ownsRow_nil _ _ _ _, World.grownBy.refl _ _⟩
  · have hH : Holds (Value.int .i64) w g 0 L.toArray := holds_of_blockI hg (by rw [Nat.mul_one] at h4; exact h4)
    have hgl : g < w.heap.size := (Array.getElem?_eq_some_iff.1 hg).1
    refine (Try.slices_Sort_int g 0 cap L w hH hgl (by omega)).mono ?_
    rintro e w' ⟨rfl, q, os, rfl⟩
    have hro := ownsRow_sortedI (n := q) (os := os) (ts := L.mergeSort fun x y => decide (x ≤ y)) hl2 hb hg h1 h2 h3
    refine ⟨rfl, ?_, grownBy_sortedI _⟩
    have e1 : ints X = (L.mergeSort fun x y => decide (x ≤ y)).map (Value.int .i64) := by rw [hs]; rfl
    have e2 : X.length = L.length := by rw [← hs]; exact hl2
    rw [e1, e2]
    exact hro
set_option maxHeartbeats 1000000 in
theorem val_any (a : Option Addr) (n c : Nat) (w : World) :
    Calls Try.prog 68 #[.slice a n c] w fun e w' => e = .returned (.func (.func 87) #[] #[.pointer (some ⟨w.heap.size, 0, none⟩)]) ∧ w' = w.alloc (.cells #[.slice a n c] 22) := by
  go_enter Try.func68, Try.ntmps68
  go_wp2_with fail
  go_ret
  exact ⟨rfl, rfl⟩
/-- What a seq of a box gives. -/
def Bx10 (w : World) (B : Nat) (xs : List Int) : Prop := B < w.heap.size ∧ ∃ b off cap, b < w.heap.size ∧ w.cell? ⟨B, 0, none⟩ = some (.slice (some ⟨b, off, none⟩) xs.length cap) ∧ ∀ j, j < xs.length → w.cell? ⟨b, off + j, none⟩ = some (.int .i64 (xs.getD j 0))
set_option maxHeartbeats 1000000 in
theorem col_any {B : Nat} {xs : List Int} {w : World} (hn : xs.length ≤ 1000) (h : Bx10 w B xs) :
    Calls Try.prog 85 #[.func (.func 87) #[] #[.pointer (some ⟨B, 0, none⟩)]] w fun e w' => ∃ v, e = .returned v ∧ w'.ownsRow w.heap.size 3 1 v xs.length (ints xs) ∧ Below w.heap.size w w' := by
  obtain ⟨hB, b, off, cap, hb, hc, hx⟩ := h
  have HC := hide (callsIn_wide.1 (seq_in Fence.wide 3 trivial trivial rfl (Nat.le_refl _) B b off cap xs hn w hB hb hc (fun j hj => by have := hx j hj; rwa [List.getD_eq_getElem?_getD] at this)))
  clear hc hx
  go_enter Try.func85, Try.ntmps85
  go_wp2_with fail
  refine HC.out.mono ?_
  rintro e w1 ⟨v, rfl, own, hb⟩
  have HO := hide own
  have HB := hide hb
  clear own hb
  go_wp2_with fail
  go_ret
  exact ⟨_, rfl, HO.out, HB.out⟩
set_option maxHeartbeats 1000000 in
theorem srt_any {B : Nat} {xs : List Int} {w : World} (hn : xs.length ≤ 1000) (h : Bx10 w B xs) :
    Calls Try.prog 67 #[.func (.func 87) #[] #[.pointer (some ⟨B, 0, none⟩)]] w fun e w' => ∃ v, e = .returned v ∧ w'.ownsRow w.heap.size 3 1 v xs.length (ints (Mx.msort xs)) ∧ Below w.heap.size w w' := by
  have HC := hide (col_any hn h)
  have HL := hide (Mx.msort_len xs)
  have HS := hide fun (W : World) (base : Nat) (v : Value) (own : W.ownsRow base 3 1 v xs.length (ints xs)) => so10 (X := Mx.msort xs) rfl hn own rfl
  clear h
  go_enter Try.func67, Try.ntmps67
  go_wp2_with fail
  refine HC.out.mono ?_
  rintro e w1 ⟨v, rfl, own, hb⟩
  have HSW := hide (HS.out _ _ _ own)
  have HO := hide own
  have HB := hide hb
  clear own hb HS HC
  go_wp2_with fail
  refine HSW.out.mono ?_
  rintro e w2 ⟨rfl, own2, hg2⟩
  have HO2 := hide own2
  rw [HL.out] at HO2
  have HB2 := hide (HB.out.trans (grown_under' hg2 HO.out (Nat.le_refl _) HB.out.size))
  clear own2 hg2 HSW
  go_wp2_with fail
  go_ret
  exact ⟨_, rfl, HO2.out, HB2.out⟩
theorem eq10 {v u : Value} {b1 b2 n m : Nat} {xs ys : List Int} {w : World} (hx : xs.length = n) (hy : ys.length = m) (hn : n ≤ 1000) (hm : m ≤ 1000) (h1 : 1 ≤ n) (h2 : 1 ≤ m) (o1 : w.ownsRow b1 3 1 v n (ints xs)) (o2 : w.ownsRow b2 3 1 u m (ints ys)) :
    Calls Try.prog 66 #[v, u] w fun e w' => e = .returned (.bool (xs == ys)) ∧ Below w.heap.size w w' := by
  rcases o1.2 with ⟨_, h0⟩ | ⟨g, cap, cur, rfl, _⟩
  · omega
  rcases o2.2 with ⟨_, h0⟩ | ⟨g', cap', cur', rfl, _⟩
  · omega
  refine (Try.slices_Equal_int g 0 n cap g' 0 m cap' xs ys w (by omega) (by omega) (by omega) (by omega) (fun j hj => by rw [Nat.zero_add, o1.cellAt j (by omega), ints_get xs j hj]) (fun j hj => by rw [Nat.zero_add, o2.cellAt j (by omega), ints_get ys j hj])).mono ?_
  rintro e w' ⟨rfl, q, rfl⟩
  rw [← hx, ← hy, List.take_length, List.take_length]
  exact ⟨rfl, below_drewN (Below.refl _ _) q⟩
theorem bx_new {w : World} {a : Option Addr} {n c : Nat} {xs : List Int} (hx : xs.length = n) (hn : 1 ≤ n) (ha : ARow w a xs) : Bx10 (w.alloc (.cells #[.slice a n c] 22)) w.heap.size xs := by
  subst hx
  have hb := below_new w (.cells #[.slice a xs.length c] 22)
  obtain ⟨b, off, rfl, h1, h2⟩ := ha.resolve_left (fun e => by rw [e] at hn; simp at hn)
  exact ⟨by simp, b, off, c, by simp; omega, by simp, fun j hj => (hb.cell (p := ⟨b, off + j, none⟩) h1).trans (h2 j hj)⟩
set_option maxHeartbeats 2000000 in
theorem asg_any {a b : Option Addr} {n m c d : Nat} {xs ys : List Int} {w : World} (hx : xs.length = n) (hy : ys.length = m) (hc : n ≤ c) (hd : m ≤ d) (ha : ARow w a xs) (hb : ARow w b ys) :
    Calls Try.prog 49 #[.slice a n c, .slice b m d] w fun e w' => e = .returned (.bool (Mx.sameB xs ys)) ∧ Below w.heap.size w w' := by
  have HX := hide hx
  have HY := hide hy
  have HA := hide ha
  have HB := hide hb
  cases h1 : Mx.goodB xs
  · have hR : Mx.sameB xs ys = false := by unfold Mx.sameB; rw [h1]; rfl
    rw [hR]
    have H1 := hide h1
    clear h1 hR ha hb hx hy
    go_enter Try.func49, Try.ntmps49
    go_wp2_with fail
    refine (gs_eq HX hc HA H1).mono ?_
    rintro e w1 ⟨rfl, hw1⟩
    obtain rfl : w = w1 := hw1.symm
    go_wp2_with fail
    go_ret
    exact ⟨rfl, Below.refl _ _⟩
  · cases h2 : Mx.goodB ys
    · have hR : Mx.sameB xs ys = false := by unfold Mx.sameB; rw [h1, h2]; rfl
      rw [hR]
      have H1 := hide h1
      have H2 := hide h2
      clear h1 h2 hR ha hb hx hy
      go_enter Try.func49, Try.ntmps49
      go_wp2_with fail
      refine (gs_eq HX hc HA H1).mono ?_
      rintro e w1 ⟨rfl, hw1⟩
      obtain rfl : w = w1 := hw1.symm
      go_wp2_with fail
      refine (gs_eq HY hd HB H2).mono ?_
      rintro e w1 ⟨rfl, hw1⟩
      obtain rfl : w = w1 := hw1.symm
      go_wp2_with fail
      go_ret
      exact ⟨rfl, Below.refl _ _⟩
    · have hR : Mx.sameB xs ys = (Mx.msort xs == Mx.msort ys) := by unfold Mx.sameB; rw [h1, h2]; rfl
      rw [hR]
      have lx := Mx.good_len h1
      have ly := Mx.good_len h2
      rw [hx] at lx
      rw [hy] at ly
      have H1 := hide h1
      have H2 := hide h2
      have hbx := bx_new (c := c) hx (by omega) ha
      have b1 := below_new w (.cells #[.slice a n c] 22)
      have HS1 := hide (srt_any (by omega) hbx)
      have HB1 := hide b1
      have HBB : Hid (∀ W, Below w.heap.size w W → ARow W b ys) := hide fun W h => hb.below h
      have LX := hide ((Mx.msort_len xs).trans hx)
      have LY := hide ((Mx.msort_len ys).trans hy)
      clear h1 h2 hR ha hb hbx b1
      generalize Mx.msort xs = MX at *
      rw [hx] at HS1
      have HBX2 := hide fun (W : World) (h : ARow W b ys) => srt_any (by omega) (bx_new (c := d) hy (by omega) h)
      generalize Mx.msort ys = MY at *
      rw [hy] at HBX2
      clear hx hy
      go_enter Try.func49, Try.ntmps49
      go_wp2_with fail
      refine (gs_eq HX hc HA H1).mono ?_
      rintro e w1 ⟨rfl, hw1⟩
      obtain rfl : w = w1 := hw1.symm
      go_wp2_with fail
      refine (gs_eq HY hd HB H2).mono ?_
      rintro e w1 ⟨rfl, hw1⟩
      obtain rfl : w = w1 := hw1.symm
      go_wp2_with fail
      refine (val_any a n c w).mono ?_
      rintro e w1 ⟨rfl, hw1⟩
      obtain rfl := hw1
      go_wp2_with fail
      refine HS1.out.mono ?_
      rintro e w2 ⟨v, rfl, own2, hb2⟩
      have HO2 := hide own2
      have HB2 := hide (HB1.out.trans (hb2.mono HB1.out.size))
      have HR2 := hide (HBX2.out _ (HBB.out _ HB2.out))
      clear own2 hb2 HS1
      go_wp2_with fail
      refine (val_any b m d w2).mono ?_
      rintro e w3 ⟨rfl, hw3⟩
      obtain rfl := hw3
      have b3 := below_new w2 (.cells #[.slice b m d] 22)
      have HO3 := hide (g_own HO2.out b3)
      have HB3 := hide (HB2.out.trans (b3.mono HB2.out.size))
      clear b3
      go_wp2_with fail
      refine HR2.out.mono ?_
      rintro e w4 ⟨u, rfl, own4, hb4⟩
      have HO4 := hide own4
      have HO3' := hide (g_own HO3.out hb4)
      have HB4 := hide (HB3.out.trans (hb4.mono HB3.out.size))
      clear own4 hb4 HR2
      go_wp2_with fail
      refine (eq10 LX.out LY.out (by omega) (by omega) (by omega) (by omega) HO3'.out HO4.out).mono ?_
      rintro e w5 ⟨rfl, hb5⟩
      have HB5 := hide (HB4.out.trans (hb5.mono HB4.out.size))
      clear hb5
      go_wp2_with fail
      go_ret
      exact ⟨rfl, HB5.out⟩
end Go.Proofs.Ytnjkdfeajlnojaa
namespace Go.Proofs.Ytnjkdfeajlnojaa
open Go.RowKit

theorem inB2_not {xs ys : List Int} {i : Nat} (hi : i < xs.length) (h : ys.contains (xs.getD i 0) = false) : Mx.inB2 xs ys = false := by
  cases e : Mx.inB2 xs ys
  · rfl
  · simp only [Mx.inB2, List.all_eq_true] at e
    have := e (xs.getD i 0) (by rw [List.getD_eq_getElem?_getD, List.getElem?_eq_getElem hi]; exact List.getElem_mem hi)
    rw [h] at this; cases this
theorem inB2_of {xs ys : List Int} {n : Nat} (hx : xs.length = n) (h : ∀ i, i < n → ys.contains (xs.getD i 0) = true) : Mx.inB2 xs ys = true := by
  simp only [Mx.inB2, List.all_eq_true]
  intro x hm
  obtain ⟨i, hi, rfl⟩ := List.getElem_of_mem hm
  have := h i (by omega)
  rwa [List.getD_eq_getElem?_getD, List.getElem?_eq_getElem hi] at this
set_option maxHeartbeats 4000000 in
theorem lb_yes {a b : Option Addr} {n c d : Nat} {xs ys : List Int} {w : World} (HX : Hid (xs.length = n)) (HY : Hid (ys.length = n)) (hn : n ≤ 9) (hc : n ≤ c) (hd : n ≤ d) (HA : Hid (ARow w a xs)) (HB : Hid (ARow w b ys)) (H1 : Hid (Mx.goodB xs = true)) (H2 : Hid (Mx.goodB ys = true)) :
    Calls Try.prog 43 #[.slice a n c, .slice b n d] w fun e w' => e = .returned (.bool (Mx.inB2 xs ys && Mx.inB2 ys xs)) ∧ w' = w := by
  have hnn : ((n : Int) != (n : Int)) = false := by simp
  have HN1 := hide fun (h : Mx.inB2 xs ys = false) => show (Mx.inB2 xs ys && Mx.inB2 ys xs) = false by rw [h]; rfl
  have HN2 := hide fun (h : Mx.inB2 ys xs = false) => show (Mx.inB2 xs ys && Mx.inB2 ys xs) = false by rw [h]; simp
  have HYS := hide fun (h : Mx.inB2 xs ys = true) (h' : Mx.inB2 ys xs = true) => show (Mx.inB2 xs ys && Mx.inB2 ys xs) = true by rw [h, h']; rfl
  generalize (Mx.inB2 xs ys && Mx.inB2 ys xs) = R at *
  go_enter Try.func43, Try.ntmps43
  go_wp2_with fail
  refine (sgs_eq HX hc HA H1).mono ?_
  rintro e w1 ⟨rfl, hw1⟩
  obtain rfl : w = w1 := hw1.symm
  go_wp2_with fail
  refine (sgs_eq HY hd HB H2).mono ?_
  rintro e w1 ⟨rfl, hw1⟩
  obtain rfl : w = w1 := hw1.symm
  go_wp2_with fail
  go_loop [4, 6, 26] (fun s4 _ s => ∃ i : Nat, s4 = .bool false ∧ s = .int .i64 i ∧ i ≤ n ∧ Hid (∀ j, j < i → ys.contains (xs.getD j 0) = true)) (fun _ _ s => n - (intOf s).toNat)
  case atStart => exact ⟨0, rfl, rfl, Nat.zero_le _, hide fun j hj => absurd hj (Nat.not_lt_zero _)⟩
  case round =>
    obtain ⟨i, rfl, rfl, hi, HI⟩ := hrel
    by_cases hlt : i < n
    · obtain ⟨b1, o1, rfl, r1⟩ := HA.out.at (i := i) (by rw [HX.out]; exact hlt)
      have i0 : (0 : Int) ≤ (i : Int) := by omega
      have i1 : (i : Int) < (n : Int) := by omega
      have HNX := hide fun (h : ys.contains (xs.getD i 0) = true) => show ∀ j, j < i + 1 → ys.contains (xs.getD j 0) = true from fun j hj => by
        by_cases e : j = i
        · subst e; exact h
        · exact HI.out j (by omega)
      have HNO := hide fun (h : ys.contains (xs.getD i 0) = false) => HN1.out (inB2_not (show i < xs.length by rw [HX.out]; exact hlt) h)
      generalize xs.getD i 0 = x at *
      cases hs : ys.contains x
      · obtain rfl := HNO.out hs
        have HS := hide hs
        clear hs
        go_wp2_with fail
        refine (has7_eq HY (by omega) HB HS).mono ?_
        rintro e w1 ⟨rfl, hw1⟩
        obtain rfl : w = w1 := hw1.symm
        go_wp2_with fail
        go_ret
        exact ⟨rfl, rfl⟩
      · have H3 := hide (HNX.out hs)
        have HS := hide hs
        clear hs
        go_wp2_with fail
        refine (has7_eq HY (by omega) HB HS).mono ?_
        rintro e w1 ⟨rfl, hw1⟩
        obtain rfl : w = w1 := hw1.symm
        go_wp2_with fail
        go_round
        case rel => exact ⟨i + 1, rfl, by go_num, by omega, H3⟩
        case measure => simp only [intOf]; omega
    · have hie : i = n := by omega
      subst hie
      have HF1 := hide (inB2_of HX.out HI.out)
      clear HI
      go_wp2_with fail
      go_loop [4, 8, 37] (fun s4 _ s => ∃ k : Nat, s4 = .bool false ∧ s = .int .i64 k ∧ k ≤ i ∧ Hid (∀ j, j < k → xs.contains (ys.getD j 0) = true)) (fun _ _ s => i - (intOf s).toNat)
      case atStart => exact ⟨0, rfl, rfl, Nat.zero_le _, hide fun j hj => absurd hj (Nat.not_lt_zero _)⟩
      case round =>
        obtain ⟨k, rfl, rfl, hk, HK⟩ := hrel
        by_cases hlk : k < i
        · obtain ⟨b1, o1, rfl, r1⟩ := HB.out.at (i := k) (by rw [HY.out]; exact hlk)
          have i0 : (0 : Int) ≤ (k : Int) := by omega
          have i1 : (k : Int) < (i : Int) := by omega
          have HNX := hide fun (h : xs.contains (ys.getD k 0) = true) => show ∀ j, j < k + 1 → xs.contains (ys.getD j 0) = true from fun j hj => by
            by_cases e : j = k
            · subst e; exact h
            · exact HK.out j (by omega)
          have HNO := hide fun (h : xs.contains (ys.getD k 0) = false) => HN2.out (inB2_not (show k < ys.length by rw [HY.out]; exact hlk) h)
          generalize ys.getD k 0 = x at *
          cases hs : xs.contains x
          · obtain rfl := HNO.out hs
            have HS := hide hs
            clear hs
            go_wp2_with fail
            refine (has7_eq HX (by omega) HA HS).mono ?_
            rintro e w1 ⟨rfl, hw1⟩
            obtain rfl : w = w1 := hw1.symm
            go_wp2_with fail
            go_ret
            exact ⟨rfl, rfl⟩
          · have H3 := hide (HNX.out hs)
            have HS := hide hs
            clear hs
            go_wp2_with fail
            refine (has7_eq HX (by omega) HA HS).mono ?_
            rintro e w1 ⟨rfl, hw1⟩
            obtain rfl : w = w1 := hw1.symm
            go_wp2_with fail
            go_round
            case rel => exact ⟨k + 1, rfl, by go_num, by omega, H3⟩
            case measure => simp only [intOf]; omega
        · have hke : k = i := by omega
          subst hke
          obtain rfl := HYS.out HF1.out (inB2_of HY.out HK.out)
          go_wp2_with fail
          go_ret
          exact ⟨rfl, rfl⟩
set_option maxHeartbeats 2000000 in
theorem lb_any {a b : Option Addr} {n m c d : Nat} {xs ys : List Int} {w : World} (hx : xs.length = n) (hy : ys.length = m) (hc : n ≤ c) (hd : m ≤ d) (ha : ARow w a xs) (hb : ARow w b ys) :
    Calls Try.prog 43 #[.slice a n c, .slice b m d] w fun e w' => e = .returned (.bool (Mx.sameB xs ys)) ∧ w' = w := by
  have HX := hide hx
  have HY := hide hy
  have HA := hide ha
  have HB := hide hb
  cases h1 : Mx.goodB xs
  · have hR : Mx.sameB xs ys = false := by unfold Mx.sameB; rw [h1]; rfl
    rw [hR]
    have H1 := hide h1
    clear h1 hR ha hb hx hy
    go_enter Try.func43, Try.ntmps43
    go_wp2_with fail
    refine (sgs_eq HX hc HA H1).mono ?_
    rintro e w1 ⟨rfl, hw1⟩
    obtain rfl : w = w1 := hw1.symm
    go_wp2_with fail
    go_ret
    exact ⟨rfl, rfl⟩
  · cases h2 : Mx.goodB ys
    · have hR : Mx.sameB xs ys = false := by unfold Mx.sameB; rw [h1, h2]; rfl
      rw [hR]
      have H1 := hide h1
      have H2 := hide h2
      clear h1 h2 hR ha hb hx hy
      go_enter Try.func43, Try.ntmps43
      go_wp2_with fail
      refine (sgs_eq HX hc HA H1).mono ?_
      rintro e w1 ⟨rfl, hw1⟩
      obtain rfl : w = w1 := hw1.symm
      go_wp2_with fail
      refine (sgs_eq HY hd HB H2).mono ?_
      rintro e w1 ⟨rfl, hw1⟩
      obtain rfl : w = w1 := hw1.symm
      go_wp2_with fail
      go_ret
      exact ⟨rfl, rfl⟩
    · have hR : Mx.sameB xs ys = (decide (xs.length = ys.length) && (Mx.inB2 xs ys && Mx.inB2 ys xs)) := by unfold Mx.sameB; rw [h1, h2, Mx.same_eq h1 h2]; rfl
      by_cases hnm : n = m
      · subst hnm
        rw [hR, show decide (xs.length = ys.length) = true by simp [hx, hy]]
        have := Mx.good_len h1
        exact lb_yes HX HY (by omega) hc hd HA HB (hide h1) (hide h2)
      · rw [hR, show decide (xs.length = ys.length) = false by simp [hx, hy, hnm]]
        have H1 := hide h1
        have H2 := hide h2
        have hne : ((n : Int) != (m : Int)) = true := by simp; omega
        clear h1 h2 hR ha hb hx hy hnm
        go_enter Try.func43, Try.ntmps43
        go_wp2_with fail
        refine (sgs_eq HX hc HA H1).mono ?_
        rintro e w1 ⟨rfl, hw1⟩
        obtain rfl : w = w1 := hw1.symm
        go_wp2_with fail
        refine (sgs_eq HY hd HB H2).mono ?_
        rintro e w1 ⟨rfl, hw1⟩
        obtain rfl : w = w1 := hw1.symm
        go_wp2_with fail
        go_ret
        exact ⟨rfl, rfl⟩
theorem lb_eq {a b : Option Addr} {n m c d : Nat} {xs ys : List Int} {w : World} {r : Bool} (hx : Hid (xs.length = n)) (hy : Hid (ys.length = m)) (hc : n ≤ c) (hd : m ≤ d) (ha : Hid (ARow w a xs)) (hb : Hid (ARow w b ys)) (h : Hid (Mx.sameB xs ys = r)) :
    Calls Try.prog 43 #[.slice a n c, .slice b m d] w fun e w' => e = .returned (.bool r) ∧ w' = w := h.out ▸ lb_any hx.out hy.out hc hd ha.out hb.out
theorem asg_eq {a b : Option Addr} {n m c d : Nat} {xs ys : List Int} {w : World} {r : Bool} (hx : Hid (xs.length = n)) (hy : Hid (ys.length = m)) (hc : n ≤ c) (hd : m ≤ d) (ha : Hid (ARow w a xs)) (hb : Hid (ARow w b ys)) (h : Hid (Mx.sameB xs ys = r)) :
    Calls Try.prog 49 #[.slice a n c, .slice b m d] w fun e w' => e = .returned (.bool r) ∧ Below w.heap.size w w' := h.out ▸ asg_any hx.out hy.out hc hd ha.out hb.out
set_option maxHeartbeats 1000000 in
theorem sp_any {a : Option Addr} {n c : Nat} {xs : List Int} {x : Int} {w : World} (hx : xs.length = n) (hn : n ≤ 1048576) (ha : ARow w a xs) :
    Calls Try.prog 77 #[.slice a n c, .int .i64 x] w fun e w' => e = .returned (.int .i64 (Ma.idx xs x)) ∧ w' = w := by
  have HA := hide ha
  have HX := hide hx
  clear ha hx
  go_enter Try.func77, Try.ntmps77
  go_wp2_with fail
  go_loop [4, 5, 6, 9] (fun s4 _ _ s => ∃ (k : Nat), s4 = .int .i64 0 ∧ s = .int .i64 k ∧ k ≤ n ∧ Hid (∀ j, j < k → (xs.getD j 0 == x) = false)) (fun _ _ _ s => n - (intOf s).toNat)
  case atStart => exact ⟨0, rfl, rfl, Nat.zero_le _, hide fun i hi => absurd hi (Nat.not_lt_zero _)⟩
  case round =>
    obtain ⟨k, rfl, rfl, hk, HK⟩ := hrel
    by_cases hlt : k < n
    · obtain ⟨b, off, rfl, r1⟩ := HA.out.at (i := k) (by rw [HX.out]; exact hlt)
      have i0 : (0 : Int) ≤ (k : Int) := by omega
      have i1 : (k : Int) < (n : Int) := by omega
      have HY := hide fun (h : (xs.getD k 0 == x) = true) => Ma.idx_at (show k < xs.length by rw [HX.out]; exact hlt) h HK.out
      generalize hy : xs.getD k 0 = y at *
      cases hb : (y == x)
      · have H1 : Hid (∀ j, j < k + 1 → (xs.getD j 0 == x) = false) := hide fun j hj => by
          by_cases e : j = k
          · subst e; rw [hy]; exact hb
          · exact HK.out j (by omega)
        clear hy
        go_wp2_with fail
        go_round
        case rel => exact ⟨k + 1, rfl, by go_num, by omega, H1⟩
        case measure => simp only [intOf]; omega
      · have H1 := hide (HY.out hb)
        clear hy
        go_wp2_with fail
        go_ret
        exact ⟨ret_int H1.out.symm, rfl⟩
    · have hke : k = n := by omega
      subst hke
      have H1 := hide (Ma.idx_none (xs := xs) (x := x) (by rw [HX.out]; exact HK.out))
      go_wp2_with fail
      go_ret
      exact ⟨ret_int H1.out.symm, rfl⟩
end Go.Proofs.Ytnjkdfeajlnojaa
namespace Go.Proofs.Ytnjkdfeajlnojaa
open Go.RowKit

/-- A job in a block of its own. -/
def JBox (w : World) (B : Nat) (v0 v1 v2 v3 v4 : Value) : Prop := w.cell? ⟨B, 0, none⟩ = some v0 ∧ w.cell? ⟨B, 1, none⟩ = some v1 ∧ w.cell? ⟨B, 2, none⟩ = some v2 ∧ w.cell? ⟨B, 3, none⟩ = some v3 ∧ w.cell? ⟨B, 4, none⟩ = some v4 ∧ B < w.heap.size
theorem JBox.keep {w w' : World} {B : Nat} {v0 v1 v2 v3 v4 : Value} (h : JBox w B v0 v1 v2 v3 v4) (hb : w'.heap[B]? = w.heap[B]?) (hs : w.heap.size ≤ w'.heap.size) : JBox w' B v0 v1 v2 v3 v4 :=
  ⟨(World.cell?_of_block (a := ⟨B, 0, none⟩) hb).trans h.1, (World.cell?_of_block (a := ⟨B, 1, none⟩) hb).trans h.2.1, (World.cell?_of_block (a := ⟨B, 2, none⟩) hb).trans h.2.2.1, (World.cell?_of_block (a := ⟨B, 3, none⟩) hb).trans h.2.2.2.1, (World.cell?_of_block (a := ⟨B, 4, none⟩) hb).trans h.2.2.2.2.1, Nat.lt_of_lt_of_le h.2.2.2.2.2 hs⟩
theorem JBox.below {w w' : World} {B : Nat} {v0 v1 v2 v3 v4 : Value} (h : JBox w B v0 v1 v2 v3 v4) (hb : Below w.heap.size w w') : JBox w' B v0 v1 v2 v3 v4 := h.keep (hb.block B h.2.2.2.2.2) hb.size
theorem JBox.grown {w w' : World} {B : Nat} {v0 v1 v2 v3 v4 : Value} {q : Option Nat} (h : JBox w B v0 v1 v2 v3 v4) (hg : w.grownBy w' q) (hq : q ≠ some B) : JBox w' B v0 v1 v2 v3 v4 := h.keep (hg.block B h.2.2.2.2.2 fun e => hq e.symm) hg.size
theorem JBox.new (w : World) (v0 v1 v2 v3 v4 : Value) (t : TypeId) : JBox (w.alloc (.cells #[v0, v1, v2, v3, v4] t)) w.heap.size v0 v1 v2 v3 v4 := ⟨by simp [go_sem], by simp [go_sem], by simp [go_sem], by simp [go_sem], by simp [go_sem], by simp⟩
/-- Two lists of ints, held against each other. -/
theorem eqr16 {a b : Option Addr} {n m c d : Nat} {xs ys : List Int} {w : World} (hx : xs.length = n) (hy : ys.length = m) (hn : n ≤ 1000) (hm : m ≤ 1000) (h1 : 1 ≤ n) (h2 : 1 ≤ m) (ha : ARow w a xs) (hb : ARow w b ys) :
    Calls Try.prog 66 #[.slice a n c, .slice b m d] w fun e w' => e = .returned (.bool (xs == ys)) ∧ Below w.heap.size w w' := by
  obtain ⟨g, o, rfl, _, r1⟩ := ha.resolve_left (fun e => by rw [e] at hx; simp at hx; omega)
  obtain ⟨g', o', rfl, _, r2⟩ := hb.resolve_left (fun e => by rw [e] at hy; simp at hy; omega)
  refine (Try.slices_Equal_int g o n c g' o' m d xs ys w (by omega) (by omega) (by omega) (by omega) (fun j hj => r1 j hj) (fun j hj => r2 j hj)).mono ?_
  rintro e w' ⟨rfl, q, rfl⟩
  rw [← hx, ← hy, List.take_length, List.take_length]
  exact ⟨rfl, below_drewN (Below.refl _ _) q⟩
theorem end_nil16 {xs ws : List Int} {L : List (Int × Int)} (h : L.length = 0) : Jb.endB xs ws L = true := by
  rw [List.length_eq_zero_iff] at h; subst h; rfl
theorem end_some16 {xs ws : List Int} {L : List (Int × Int)} (hg : Mx.goodB xs = true) (h : L.length ≠ 0) : (Mx.dmB xs L = false → Jb.endB xs ws L = false) ∧ (Mx.dmB xs L = true → Jb.endB xs ws L = (Mx.dmL xs L == ws)) := by
  have h0 : L.isEmpty = false := by cases L with
    | nil => simp at h
    | cons _ _ => rfl
  constructor
  · intro e
    simp only [Mx.dmB, hg, Bool.true_and] at e
    simp only [Jb.endB, h0, Bool.false_or]
    cases hr : Mx.run xs L with
    | none => simp
    | some ys => rw [hr] at e; simp at e; simp; omega
  · intro e
    have e2 := e
    simp only [Mx.dmB, hg, Bool.true_and, Bool.and_eq_true, decide_eq_true_eq] at e2
    obtain ⟨ys, hr⟩ := Option.isSome_iff_exists.1 e2.2
    rw [(Mx.dm_yes hg e2.1 hr).2]
    simp [Jb.endB, h0, hr, e2.1]
set_option maxHeartbeats 4000000 in
theorem lw_any {a b p r : Option Addr} {n m c d q e s t : Nat} {f : Int} {xs ws : List Int} {L : List (Int × Int)} {w : World} (HX : Hid (xs.length = n)) (HY : Hid (ws.length = m)) (hc : n ≤ c) (hn : 1 ≤ n) (hn9 : n ≤ 9) (hm1 : 1 ≤ m) (hm9 : m ≤ 9) (HA : Hid (ARow w a xs)) (HB : Hid (ARow w b ws)) (HL : Hid (L.length = q)) (HF : Hid (FRow w p L)) (HG : Hid (Mx.goodB xs = true)) :
    Calls Try.prog 52 #[.agg #[.slice a n c, .slice b m d, .slice p q e, .slice r s t, .int .i64 f]] w fun e w' => e = .returned (.bool (Jb.endB xs ws L)) ∧ Below w.heap.size w w' := by
  have hb0 := below_new w (.cells #[.slice a n c, .slice b m d, .slice p q e, .slice r s t, .int .i64 f] 25)
  have hj0 := JBox.new w (.slice a n c) (.slice b m d) (.slice p q e) (.slice r s t) (.int .i64 f) 25
  have HN := hide fun (h : L.length = 0) => end_nil16 (xs := xs) (ws := ws) h
  have HS := hide fun (h : L.length ≠ 0) => end_some16 (ws := ws) HG.out h
  rw [HL.out] at HN HS
  have HDL := hide (Mx.dmL_le xs L)
  have HDN : Hid (Mx.dmB xs L = true → (Mx.dmL xs L).length = n) := hide fun h => by
    have e2 := h
    simp only [Mx.dmB, HG.out, Bool.true_and, Bool.and_eq_true, decide_eq_true_eq] at e2
    obtain ⟨ys, hr⟩ := Option.isSome_iff_exists.1 e2.2
    rw [(Mx.dm_yes HG.out e2.1 hr).2, Mx.run_len _ hr, HX.out]
  have HA1 := hide (HA.out.below hb0)
  have HB1 := hide (HB.out.below hb0)
  have HF1 := hide (HF.out.below hb0)
  have HD := hide fun (W : World) (hA : ARow W a xs) (hF : FRow W p L) => dm_w (c := c) (d := e) HX.out hc hA HL.out hF
  have HB0 := hide hb0
  have HJ0 := hide hj0
  generalize Jb.endB xs ws L = E at *
  generalize Mx.dmB xs L = G at *
  generalize Mx.dmL xs L = R at *
  clear hb0 hj0 HA HB HF
  by_cases hq : q = 0
  · obtain rfl := HN.out hq
    subst hq
    go_enter Try.func52, Try.ntmps52
    go_wp2_with fail
    go_ret
    exact ⟨rfl, HB0.out⟩
  · have q0 : ((q : Int) == 0) = false := by simp; omega
    obtain ⟨H1, H2⟩ := HS.out hq
    have H1 := hide H1
    have H2 := hide H2
    clear HN HS
    go_enter Try.func52, Try.ntmps52
    go_wp2_with fail
    refine (HD.out _ HA1.out HF1.out).mono ?_
    rintro _ w1 ⟨v, rfl, hb1, o1⟩
    have hj1 := HJ0.out.below hb1
    obtain ⟨c0, c1, c2, c3, c4, _⟩ := hj1
    have HB2 := hide (HB0.out.trans (hb1.mono HB0.out.size))
    have HBR := hide (HB1.out.below hb1)
    have HO := hide o1
    clear HD HJ0 HA1 HF1 hb1 o1 HB1
    cases G
    · obtain rfl := H1.out rfl
      go_wp2_with fail
      go_ret
      exact ⟨rfl, HB2.out⟩
    · have he := H2.out rfl
      have hl := HDN.out rfl
      have ho := HO.out
      rw [hl] at ho
      obtain ⟨a', c', rfl, hr⟩ := ho.row hl
      have HE := hide (eqr16 (c := c') (d := d) hl HY.out (by omega) (by omega) hn hm1 hr HBR.out)
      have HQ := hide he
      clear hr ho he HDL HDN H1 H2 HO
      go_wp2_with fail
      refine HE.out.mono ?_
      rintro _ w2 ⟨rfl, hb2⟩
      have HB3 := hide (HB2.out.trans (hb2.mono HB2.out.size))
      clear hb2 HE
      go_wp2_with fail
      go_ret
      exact ⟨ret_bool HQ.out.symm, HB3.out⟩
set_option maxHeartbeats 4000000 in
theorem gj_any {a b p r : Option Addr} {n m c d q e s t : Nat} {f : Int} {xs ws : List Int} {L M : List (Int × Int)} {w : World} (HX : Hid (xs.length = n)) (HY : Hid (ws.length = m)) (hc : n ≤ c) (hd : m ≤ d) (HA : Hid (ARow w a xs)) (HB : Hid (ARow w b ws)) (HL : Hid (L.length = q)) (HF : Hid (FRow w p L)) (HM : Hid (M.length = s)) (HK : Hid (FRow w r M)) :
    Calls Try.prog 20 #[.agg #[.slice a n c, .slice b m d, .slice p q e, .slice r s t, .int .i64 f]] w fun e w' => e = .returned (.bool (Jb.goodB xs ws L M f)) ∧ Below w.heap.size w w' := by
  have hb0 := below_new w (.cells #[.slice a n c, .slice b m d, .slice p q e, .slice r s t, .int .i64 f] 25)
  have hj0 := JBox.new w (.slice a n c) (.slice b m d) (.slice p q e) (.slice r s t) (.int .i64 f) 25
  have HGD : Hid (Jb.goodB xs ws L M f = (Mx.sameB xs ws && (decide (s ≤ 60) && (Pf.inB f 0 60 && (Jb.stB xs M && Jb.endB xs ws L))))) := hide (by unfold Jb.goodB; rw [HM.out])
  have HSG := hide fun (h : Mx.sameB xs ws = true) => show (1 ≤ n ∧ n ≤ 9) ∧ (1 ≤ m ∧ m ≤ 9) ∧ Mx.goodB xs = true from by
    have h1 := Mx.good_len (Mx.same_good h).1
    have h2 := (Mx.same_good h).2.2.length_eq
    have := HX.out
    have := HY.out
    exact ⟨by omega, by omega, (Mx.same_good h).1⟩
  have HA1 := hide (HA.out.below hb0)
  have HB1 := hide (HB.out.below hb0)
  have HF1 := hide (HF.out.below hb0)
  have HK1 := hide (HK.out.below hb0)
  have HB0 := hide hb0
  have HJ0 := hide hj0
  generalize Jb.goodB xs ws L M f = G at *
  clear hb0 hj0 HA HB HF HK
  cases hs : Mx.sameB xs ws
  · have HN : Hid (G = false) := hide (by rw [HGD.out, hs]; rfl)
    have HS := hide hs
    clear hs HGD HSG
    go_enter Try.func20, Try.ntmps20
    go_wp2_with fail
    refine (asg_eq HX HY hc hd HA1 HB1 HS).mono ?_
    rintro _ w1 ⟨rfl, hb1⟩
    have HB2 := hide (HB0.out.trans (hb1.mono HB0.out.size))
    clear hb1
    go_wp2_with fail
    go_ret
    exact ⟨ret_bool HN.out.symm, HB2.out⟩
  · have HS := hide hs
    obtain ⟨⟨n1, n9⟩, ⟨m1, m9⟩, hgx⟩ := HSG.out hs
    have HGX := hide hgx
    rw [hs] at HGD
    clear hs hgx HSG
    by_cases h60 : s ≤ 60
    · have z60 : ¬ (60 : Int) < (s : Int) := by omega
      cases hf : Pf.inB f 0 60
      · have HN : Hid (G = false) := hide (by rw [HGD.out, hf]; simp)
        clear HGD
        go_enter Try.func20, Try.ntmps20
        go_wp2_with fail
        refine (asg_eq HX HY hc hd HA1 HB1 HS).mono ?_
        rintro _ w1 ⟨rfl, hb1⟩
        obtain ⟨c0, c1, c2, c3, c4, _⟩ := HJ0.out.below hb1
        have HB2 := hide (HB0.out.trans (hb1.mono HB0.out.size))
        clear hb1
        go_wp2_with fail
        refine (between_eq hf).mono ?_
        rintro _ w2 ⟨rfl, hw2⟩
        obtain rfl := hw2.symm
        go_wp2_with fail
        go_ret
        exact ⟨ret_bool HN.out.symm, HB2.out⟩
      · have HR : Hid (G = (Jb.stB xs M && Jb.endB xs ws L)) := hide (by rw [HGD.out, hf]; simp [h60])
        clear HGD
        have HST := hide fun (W : World) (vb vp : Value) (hA : ARow W a xs) (hK : FRow W r M) => st_any (c := c) (d := t) (vw := vb) (vl := vp) (f := f) HX.out n1 n9 hA HM.out h60 hK
        have HLW := hide fun (W : World) (hA : ARow W a xs) (hB : ARow W b ws) (hF : FRow W p L) => lw_any (c := c) (d := d) (e := e) (r := r) (s := s) (t := t) (f := f) HX HY hc n1 n9 m1 m9 (hide hA) (hide hB) HL (hide hF) HGX
        generalize Jb.stB xs M = S at *
        generalize Jb.endB xs ws L = E at *
        go_enter Try.func20, Try.ntmps20
        go_wp2_with fail
        refine (asg_eq HX HY hc hd HA1 HB1 HS).mono ?_
        rintro _ w1 ⟨rfl, hb1⟩
        have HJ1 := hide (HJ0.out.below hb1)
        obtain ⟨c0, c1, c2, c3, c4, _⟩ := HJ1.out
        have HB2 := hide (HB0.out.trans (hb1.mono HB0.out.size))
        have HA2 := hide (HA1.out.below hb1)
        have HB1' := hide (HB1.out.below hb1)
        have HF2 := hide (HF1.out.below hb1)
        have HK2 := hide (HK1.out.below hb1)
        clear hb1 HA1 HB1 HF1 HK1 HJ0 HB0
        go_wp2_with fail
        refine (between_eq hf).mono ?_
        rintro _ w2 ⟨rfl, hw2⟩
        obtain rfl := hw2.symm
        go_wp2_with fail
        refine (HST.out _ _ _ HA2.out HK2.out).mono ?_
        rintro _ w3 ⟨v, rfl, hb3, _⟩
        obtain ⟨d0, d1, d2, d3, d4, _⟩ := HJ1.out.below hb3
        have HB3 := hide (HB2.out.trans (hb3.mono HB2.out.size))
        have HC := hide (HLW.out w3 (HA2.out.below hb3) (HB1'.out.below hb3) (HF2.out.below hb3))
        clear HST HLW HA2 HB1' HF2 HK2 hb3 HB2 HJ1 c0 c1 c2 c3 c4
        cases S
        · have HN : Hid (G = false) := hide (by rw [HR.out]; rfl)
          clear HC
          go_wp2_with fail
          go_ret
          exact ⟨ret_bool HN.out.symm, HB3.out⟩
        · have HN : Hid (G = E) := hide (by rw [HR.out]; rfl)
          go_wp2_with fail
          refine HC.out.mono ?_
          rintro _ w4 ⟨rfl, hb4⟩
          have HB4 := hide (HB3.out.trans (hb4.mono HB3.out.size))
          clear hb4 HC
          go_wp2_with fail
          go_ret
          exact ⟨ret_bool HN.out.symm, HB4.out⟩
    · have z60 : (60 : Int) < (s : Int) := by omega
      have HN : Hid (G = false) := hide (by rw [HGD.out]; simp [h60])
      clear HGD
      go_enter Try.func20, Try.ntmps20
      go_wp2_with fail
      refine (asg_eq HX HY hc hd HA1 HB1 HS).mono ?_
      rintro _ w1 ⟨rfl, hb1⟩
      obtain ⟨c0, c1, c2, c3, c4, _⟩ := HJ0.out.below hb1
      have HB2 := hide (HB0.out.trans (hb1.mono HB0.out.size))
      clear hb1
      go_wp2_with fail
      go_ret
      exact ⟨ret_bool HN.out.symm, HB2.out⟩
theorem gj_eq {a b p r : Option Addr} {n m c d q e s t : Nat} {f : Int} {xs ws : List Int} {L M : List (Int × Int)} {w : World} {g : Bool} (HX : Hid (xs.length = n)) (HY : Hid (ws.length = m)) (hc : n ≤ c) (hd : m ≤ d) (HA : Hid (ARow w a xs)) (HB : Hid (ARow w b ws)) (HL : Hid (L.length = q)) (HF : Hid (FRow w p L)) (HM : Hid (M.length = s)) (HK : Hid (FRow w r M)) (hg : Hid (Jb.goodB xs ws L M f = g)) :
    Calls Try.prog 20 #[.agg #[.slice a n c, .slice b m d, .slice p q e, .slice r s t, .int .i64 f]] w fun e w' => e = .returned (.bool g) ∧ Below w.heap.size w w' := hg.out ▸ gj_any HX HY hc hd HA HB HL HF HM HK
end Go.Proofs.Ytnjkdfeajlnojaa
namespace Go.Proofs.Ytnjkdfeajlnojaa
open Go.RowKit

theorem AV.low {w : World} {lo lo' hi n : Nat} {v : Value} {xs : List Int} (h : AV w lo hi v n xs) (hl : lo' ≤ lo) : AV w lo' hi v n xs := ⟨owns_low h.1 hl, h.2⟩
theorem PBox.grown10 {w w' : World} {B : Nat} {v0 v1 : Value} {q : Option Nat} (h : PBox w B v0 v1) (hg : w.grownBy w' q) (hq : ∀ b, q = some b → B < b) : PBox w' B v0 v1 := by
  have hb : w'.heap[B]? = w.heap[B]? := hg.block B h.2.2 (fun e => by have := hq B e.symm; omega)
  exact ⟨(World.cell?_of_block (w := w) (a := ⟨B, 0, none⟩) hb).trans h.1, (World.cell?_of_block (w := w) (a := ⟨B, 1, none⟩) hb).trans h.2.1, Nat.lt_of_lt_of_le h.2.2 hg.size⟩
theorem frow_one (w : World) (F T : Int) (t : TypeId) : FRow (w.alloc (.cells #[.int .i64 F, .int .i64 T] t)) (some ⟨w.heap.size, 0, none⟩) [(F, T)] := by
  refine Or.inr ⟨w.heap.size, 0, rfl, by simp, fun i hi => ?_⟩
  have : i = 0 := by simp at hi; omega
  subst this
  simp
end Go.Proofs.Ytnjkdfeajlnojaa
namespace Go.Proofs.Ytnjkdfeajlnojaa
open Go.RowKit

theorem eq_upto16 {xs ys : List Int} {n : Nat} (hx : xs.length = n) (hy : ys.length = n) (h : ∀ j, j < n → xs.getD j 0 = ys.getD j 0) : xs = ys := by
  refine List.ext_getElem (by omega) fun i hi hi' => ?_
  have := h i (by omega)
  simp only [List.getD_eq_getElem?_getD, List.getElem?_eq_getElem hi, List.getElem?_eq_getElem hi', Option.getD_some] at this
  exact this
set_option maxHeartbeats 1000000 in
theorem sm16_some (xs ys : List Int) (b o c b' o' c' n : Nat) (w : World) (hx : Hid (xs.length = n)) (hy : Hid (ys.length = n)) (hl : n ≤ 4000000000000) (h1 : ∀ i, i < xs.length → w.cell? ⟨b, o + i, none⟩ = some (.int .i64 (xs.getD i 0))) (h2 : ∀ i, i < ys.length → w.cell? ⟨b', o' + i, none⟩ = some (.int .i64 (ys.getD i 0))) :
    Calls Try.prog 47 #[.slice (some ⟨b, o, none⟩) n c, .slice (some ⟨b', o', none⟩) n c'] w fun e w' => e = .returned (.bool (decide (xs = ys))) ∧ ∃ m, w' = w.drewN m := by
  have hne : ((n : Int) != (n : Int)) = false := by simp
  rw [hx.out] at h1
  rw [hy.out] at h2
  have H1 := hide h1
  have H2 := hide h2
  clear h1 h2
  go_enter Try.func47, Try.ntmps47
  go_wp2_with fail
  go_loopw [13] (fun s wr => ∃ k : Nat, s = .int .i64 k ∧ k ≤ n ∧ Hid (∀ j, j < k → xs.getD j 0 = ys.getD j 0) ∧ ∃ m, wr = w.drewN m) (fun s _ => n - (intOf s).toNat)
  case atStart => exact ⟨0, rfl, Nat.zero_le _, hide (fun j h => by omega), 0, rfl⟩
  case round =>
    obtain ⟨k, rfl, hk, HE, m, rfl⟩ := hrel
    by_cases hlt : k < n
    · have r1 := H1.out k hlt
      have r2 := H2.out k hlt
      have i0 : (0 : Int) ≤ (k : Int) := by omega
      have i1 : (k : Int) < (n : Int) := by omega
      by_cases he : xs.getD k 0 = ys.getD k 0
      · have HE2 : Hid (∀ j, j < k + 1 → xs.getD j 0 = ys.getD j 0) := hide (fun j hj => by
          by_cases e : j = k
          · subst e; exact he
          · exact HE.out j (by omega))
        rw [← he] at r2
        generalize xs.getD k 0 = x at *
        have hxx : (x != x) = false := by simp
        clear he HE
        go_wp2_with fail
        go_region
        go_wp2_with fail
        exact ⟨⟨k + 1, by go_num, by omega, HE2, m + 1, rfl⟩, by simp only [intOf]; omega⟩
      · have HD : Hid (false = decide (xs = ys)) := hide (by
          symm; rw [decide_eq_false_iff_not]
          exact fun e => he (by rw [e]))
        have hxx : (xs.getD k 0 != ys.getD k 0) = true := by simpa using he
        generalize xs.getD k 0 = x at *
        generalize ys.getD k 0 = y at *
        clear he HE
        go_wp2_with fail
        go_region
        go_wp2_with fail
        go_ret
        exact ⟨ret_bool HD.out, m + 1, rfl⟩
    · have HD : Hid (true = decide (xs = ys)) := hide (by
        symm; rw [decide_eq_true_eq]
        exact eq_upto16 hx.out hy.out (fun j hj => HE.out j (by omega)))
      go_wp2_with fail
      go_ret
      exact ⟨ret_bool HD.out, m, rfl⟩
theorem sm16 {a b : Option Addr} {c d n : Nat} {xs ys : List Int} {w : World} (hx : Hid (xs.length = n)) (hy : Hid (ys.length = n)) (h0 : 1 ≤ n) (hl : n ≤ 1048576) (h1 : ARow w a xs) (h2 : ARow w b ys) :
    Calls Try.prog 47 #[.slice a n c, .slice b n d] w fun e w' => e = .returned (.bool (decide (xs = ys))) ∧ Below w.heap.size w w' := by
  have lx := hx.out
  have ly := hy.out
  rcases h1 with rfl | ⟨b1, o1, rfl, hb1, c1⟩
  · simp at lx; omega
  · rcases h2 with rfl | ⟨b2, o2, rfl, hb2, c2⟩
    · simp at ly; omega
    · exact (sm16_some xs ys b1 o1 c b2 o2 d n w hx hy (by omega) c1 c2).mono fun e w' ⟨h, m, hw⟩ => ⟨h, hw ▸ below_drewN (Below.refl _ _) m⟩
set_option maxHeartbeats 4000000 in
theorem srn_any {a b : Option Addr} {n c m d : Nat} {xs : List Int} {L : List (Int × Int)} {w : World} (HX : Hid (xs.length = n)) (h1 : 1 ≤ n) (hn9 : n ≤ 9) (HA : Hid (ARow w a xs)) (HL : Hid (L.length = m)) (hm : m ≤ 1000) (HF : Hid (FRow w b L)) :
    Calls Try.prog 45 #[.slice a n c, .slice b m d] w fun e w' => ∃ v, e = .returned (.tuple #[v, .bool (Mx.run xs L).isSome]) ∧ Below w.heap.size w w' ∧ AV w' w.heap.size w'.heap.size v ((Mx.run xs L).getD []).length ((Mx.run xs L).getD []) := by
  have HNO := hide fun (h : Mx.run xs L = none) => show (Mx.run xs L).isSome = false ∧ (Mx.run xs L).getD [] = [] by rw [h]; exact ⟨rfl, rfl⟩
  have HYES := hide fun (ys : List Int) (h : Mx.run xs L = some ys) => show (Mx.run xs L).isSome = true ∧ (Mx.run xs L).getD [] = ys by rw [h]; exact ⟨rfl, rfl⟩
  have HR0 : Hid (Mx.run xs (L.take 0) = some xs) := hide rfl
  have HRS := hide fun (i : Nat) (ys : List Int) (hi : i < L.length) (h : Mx.run xs (L.take i) = some ys) (hc : Mx.canB ys (L.getD i (0, 0)) = true) => show Mx.run xs (L.take (i + 1)) = some (Mx.mv ys (L.getD i (0, 0))) by rw [Mx.run_step hi h, hc]; rfl
  have HRF := hide fun (i : Nat) (ys : List Int) (hi : i < L.length) (h : Mx.run xs (L.take i) = some ys) (hc : Mx.canB ys (L.getD i (0, 0)) = false) => HNO.out (Mx.run_stop hi h hc)
  have HLT : Hid (L.take m = L) := hide (by rw [← HL.out, List.take_length])
  generalize (Mx.run xs L).isSome = G at *
  generalize (Mx.run xs L).getD [] = R at *
  obtain ⟨v, w0, hr0, own, hb⟩ := cl_run (c := c) HX.out (by omega) HA.out
  have HB0 := hide hb
  have HO0 := hide own
  obtain ⟨g, cap, rfl, hg0, _⟩ := own_some10 own (by omega)
  clear hb own
  go_enter Try.func45, Try.ntmps45
  go_wp2_with (first | (at_builtin; refine Lib.wpList_append_run _ rfl _ _ _ _ rfl _ _ rfl rfl _ _ (hr0 _) ?_))
  clear hr0
  go_loopw [4, 5, 8, 14] (fun s4 s5 _ s wr => ∃ (i : Nat) (ys : List Int), s4 = .slice none 0 0 ∧ s5 = .bool false ∧ s = .int .i64 i ∧ i ≤ m ∧ ys.length = n ∧ Hid (wr.ownsRow w.heap.size 3 1 (.slice (some ⟨g, 0, none⟩) n cap) n (ints ys)) ∧ Hid (Below w.heap.size w wr) ∧ Hid (Mx.run xs (L.take i) = some ys)) (fun _ _ _ s _ => m - (intOf s).toNat)
  case atStart => exact ⟨0, xs, rfl, rfl, rfl, Nat.zero_le _, HX.out, HO0, HB0, HR0⟩
  case round =>
    obtain ⟨i, ys, rfl, rfl, rfl, hi, hy, HO, HB, HR⟩ := hrel
    by_cases hlt : i < m
    · obtain ⟨b1, o1, rfl, hb1, r0, r1⟩ := HF.out.at (i := i) (by rw [HL.out]; exact hlt)
      have r0' := (HB.out.cell (p := ⟨b1, o1 + i * 2, none⟩) hb1).trans r0
      have r1' := (HB.out.cell (p := ⟨b1, o1 + i * 2 + 1, none⟩) hb1).trans r1
      have HS1 := hide (HRS.out i ys (by rw [HL.out]; exact hlt) HR.out)
      have HS2 := hide (HRF.out i ys (by rw [HL.out]; exact hlt) HR.out)
      generalize hmm : L.getD i (0, 0) = mm at *
      obtain ⟨F, T⟩ := mm
      simp only at r0' r1'
      clear r0 r1 hmm
      have i0 : (0 : Int) ≤ (i : Int) := by omega
      have i1 : (i : Int) < (m : Int) := by omega
      have bW1 := below_new wr (.cells #[.int .i64 F, .int .i64 T] 41)
      have own1 := HO.out.alloc (.cells #[.int .i64 F, .int .i64 T] 41)
      have cm0 : (wr.alloc (.cells #[.int .i64 F, .int .i64 T] 41)).cell? ⟨wr.heap.size, 0, none⟩ = some (.int .i64 F) := by simp
      have cm1 : (wr.alloc (.cells #[.int .i64 F, .int .i64 T] 41)).cell? ⟨wr.heap.size, 1, none⟩ = some (.int .i64 T) := by simp
      have hz1 : wr.heap.size < (wr.alloc (.cells #[.int .i64 F, .int .i64 T] 41)).heap.size := by simp
      obtain ⟨W1, hW1⟩ : ∃ W, W = wr.alloc (.cells #[.int .i64 F, .int .i64 T] 41) := ⟨_, rfl⟩
      rw [← hW1] at bW1 own1 cm0 cm1 hz1
      have HB1 := hide (HB.out.trans (bW1.mono HB.out.size))
      have HO1 := hide own1
      have HW1 := hide hW1.symm
      obtain ⟨BV, hBV⟩ : ∃ b, b = wr.heap.size := ⟨_, rfl⟩
      rw [← hBV] at cm0 cm1 hz1
      have HBV := hide hBV.symm
      clear bW1 own1 hW1 hBV HO HB
      go_upto_region 7 with fail
      rw [HW1.out, HBV.out]
      clear HW1 HBV
      have HLD := hide (ld_any (F := F) (T := T) hy HO1.out)
      have HAF : Hid (Mx.canB ys (F, T) = true → aft ys (F, T) = Mx.mv ys (F, T)) := hide fun h => by unfold aft; rw [h]; rfl
      generalize Mx.canB ys (F, T) = K at *
      go_wp2_with fail
      refine HLD.out.mono ?_
      rintro e w2 ⟨rfl, own2, hg2⟩
      have HB2 := hide (HB1.out.trans (grown_under10 hg2 (fun b e => by cases e; exact hg0) HB1.out.size))
      have HO2 := hide own2
      clear HLD own2 hg2
      cases K
      · obtain ⟨rfl, rfl⟩ := HS2.out rfl
        have HNIL := hide (av_nil w2 w.heap.size)
        go_wp2_with fail
        go_ret2
        exact ⟨.slice none 0 0, rfl, HB2.out, HNIL.out⟩
      · have HRN := hide (HS1.out rfl)
        rw [HAF.out rfl] at HO2
        clear HS1 HS2 HAF
        go_wp2_with fail
        go_roundw
        case rel => exact ⟨i + 1, _, rfl, rfl, by go_num, by omega, by rw [Mx.mv_len]; exact hy, HO2, HB2, HRN⟩
        case measure => simp only [intOf]; omega
    · have hie : i = m := by omega
      subst hie
      rw [HLT.out] at HR
      obtain ⟨rfl, rfl⟩ := HYES.out ys HR.out
      have HFIN := hide (AV.new HO.out)
      go_wp2_with fail
      go_ret2
      exact ⟨.slice (some ⟨g, 0, none⟩) n cap, rfl, HB.out, HFIN.out⟩
theorem back16 (M : List (Int × Int)) : backTo M 0 = Jb.bks M := rfl
set_option maxHeartbeats 4000000 in
theorem sst_any {a p : Option Addr} {n c q d : Nat} {xs : List Int} {M : List (Int × Int)} {w : World} (HX : Hid (xs.length = n)) (h1 : 1 ≤ n) (hn9 : n ≤ 9) (HA : Hid (ARow w a xs)) (HL : Hid (M.length = q)) (hq : q ≤ 1000) (HF : Hid (FRow w p M)) :
    Calls Try.prog 46 #[.slice a n c, .slice p q d] w fun e w' => ∃ v, e = .returned (.tuple #[v, .bool (Jb.stB xs M)]) ∧ Below w.heap.size w w' ∧ AV w' w.heap.size w'.heap.size v (Jb.stL xs M).length (Jb.stL xs M) := by
  have HR := hide fun (W : World) (u : Option Addr) (cu : Nat) (hA : ARow W a xs) (hF : FRow W u (Jb.bks M)) => srn_any (w := W) (c := c) (d := cu) (m := q) HX h1 hn9 (hide hA) (hide (show (Jb.bks M).length = q by rw [Jb.bks_len]; exact HL.out)) hq (hide hF)
  have HE1 : Hid ((Mx.run xs (Jb.bks M)).isSome = Jb.stB xs M) := hide rfl
  have HE2 : Hid ((Mx.run xs (Jb.bks M)).getD [] = Jb.stL xs M) := hide rfl
  generalize Jb.stB xs M = G at *
  generalize Jb.stL xs M = R at *
  go_enter Try.func46, Try.ntmps46
  go_wp2_with fail
  go_loopw [6, 7, 8] (fun v s _ wr => ∃ (k : Nat) (z : Int), s = .int .i64 z ∧ z = (k : Int) - 1 ∧ k ≤ q ∧ Hid (wr.ownsRow w.heap.size 41 2 v (q - k) (mce (backTo M k))) ∧ Hid (Below w.heap.size w wr)) (fun _ s _ _ => (intOf s + 1).toNat)
  case atStart => exact ⟨q, _, rfl, rfl, Nat.le_refl _, hide (by
      rw [Nat.sub_self, show backTo M q = [] by unfold backTo; rw [← HL.out, List.drop_length]; rfl]; exact World.ownsRow_nil _ _ _ _), hide (Below.refl _ _)⟩
  case round =>
    obtain ⟨k, z, rfl, hz, hk, HO, HB⟩ := hrel
    obtain ⟨av, cv, hu⟩ := own_formM HO.out
    by_cases hz0 : 0 ≤ z
    · obtain ⟨j, rfl⟩ := Int.eq_ofNat_of_zero_le hz0
      obtain rfl : k = j + 1 := by omega
      clear hz
      have hlt : j < q := by omega
      obtain ⟨b, o, rfl, hb, r0, r1⟩ := HF.out.at (i := j) (by rw [HL.out]; exact hlt)
      have r0' := (HB.out.cell (p := ⟨b, o + j * 2, none⟩) hb).trans r0
      have r1' := (HB.out.cell (p := ⟨b, o + j * 2 + 1, none⟩) hb).trans r1
      have HSP := hide (backTo_step (show j < M.length by rw [HL.out]; exact hlt))
      have HSW : Hid (swp (M.getD j (0, 0)) = ((M.getD j (0, 0)).2, (M.getD j (0, 0)).1)) := hide rfl
      generalize (M.getD j (0, 0)).1 = x at *
      generalize (M.getD j (0, 0)).2 = y at *
      clear r0 r1
      have i0 : (0 : Int) ≤ (j : Int) := by omega
      have i1 : (j : Int) < (q : Int) := by omega
      have bW1 := below_new wr (.cells #[.int .i64 x, .int .i64 y] 41)
      have HB1 := hide (HB.out.trans (bW1.mono HB.out.size))
      have own1 := HO.out.alloc (.cells #[.int .i64 x, .int .i64 y] 41)
      have cm0 : (wr.alloc (.cells #[.int .i64 x, .int .i64 y] 41)).cell? ⟨wr.heap.size, 0, none⟩ = some (.int .i64 x) := by simp
      have cm1 : (wr.alloc (.cells #[.int .i64 x, .int .i64 y] 41)).cell? ⟨wr.heap.size, 1, none⟩ = some (.int .i64 y) := by simp
      obtain ⟨W1, hW1⟩ : ∃ W, W = wr.alloc (.cells #[.int .i64 x, .int .i64 y] 41) := ⟨_, rfl⟩
      rw [← hW1] at HB1 own1 cm0 cm1
      have HW1 := hide hW1.symm
      have HO1 := hide own1
      obtain ⟨BV, hBV⟩ : ∃ b, b = wr.heap.size := ⟨_, rfl⟩
      rw [← hBV] at cm0 cm1
      have HBV := hide hBV.symm
      clear bW1 own1 hW1 hBV HO
      subst hu
      go_upto_region 6 with fail
      rw [HW1.out, HBV.out]
      clear HW1 HBV
      obtain ⟨v3, w3, hr3, own3, hg3⟩ := push_mv (x := y) (y := x) HO1.out (by omega) HB1.out.size
      rw [← mce_snoc _ (y, x), ← HSW.out, ← HSP.out, show q - (j + 1) + 1 = q - j by omega] at own3
      have HO3 := hide own3
      have HB3 := hide (HB1.out.trans (grown_under' hg3 HO1.out (Nat.le_refl _) HB1.out.size))
      clear own3 hg3
      go_wp2_with (first | (at_builtin; refine Lib.wpList_append_run _ rfl _ _ _ _ rfl _ _ rfl rfl _ _ (hr3 _) ?_))
      go_roundw
      case rel => exact ⟨j, _, rfl, rfl, by omega, HO3, HB3⟩
      case measure => simp only [intOf]; omega
    · obtain rfl : k = 0 := by omega
      obtain rfl : z = -1 := by omega
      clear hz
      have hmo := mo_own (by rw [Nat.sub_zero, back16, Jb.bks_len, HL.out]) HO.out
      rw [Nat.sub_zero, back16] at hmo
      obtain ⟨av', cv', e', hrow⟩ := hmo.row
      rw [hu, Nat.sub_zero] at e'
      injection e' with e1 e2 e3
      subst e1 e3
      rw [Nat.sub_zero] at hu
      subst hu
      have HC := hide (HR.out wr av cv (HA.out.below HB.out) hrow)
      rw [HE1.out, HE2.out] at HC
      clear HR hmo hrow HO
      go_wp2_with fail
      refine HC.out.mono ?_
      rintro e w2 ⟨v, rfl, hb2, o2⟩
      have HB2 := hide (HB.out.trans (hb2.mono HB.out.size))
      have HO2 := hide (AV.low o2 HB.out.size)
      clear HC hb2 o2
      go_wp2_with fail
      go_ret2
      exact ⟨_, rfl, HB2.out, HO2.out⟩
end Go.Proofs.Ytnjkdfeajlnojaa
namespace Go.Proofs.Ytnjkdfeajlnojaa
open Go.RowKit

set_option maxHeartbeats 4000000 in
theorem sgj_any {a b p r : Option Addr} {n m c d q e s t : Nat} {f : Int} {xs ws : List Int} {L M : List (Int × Int)} {w : World} (HX : Hid (xs.length = n)) (HY : Hid (ws.length = m)) (hc : n ≤ c) (hd : m ≤ d) (HA : Hid (ARow w a xs)) (HB : Hid (ARow w b ws)) (HL : Hid (L.length = q)) (HF : Hid (FRow w p L)) (HM : Hid (M.length = s)) (HK : Hid (FRow w r M)) :
    Calls Try.prog 18 #[.agg #[.slice a n c, .slice b m d, .slice p q e, .slice r s t, .int .i64 f]] w fun e w' => e = .returned (.bool (Jb.goodB xs ws L M f)) ∧ Below w.heap.size w w' := by
  have hb0 := below_new w (.cells #[.slice a n c, .slice b m d, .slice p q e, .slice r s t, .int .i64 f] 25)
  have hj0 := JBox.new w (.slice a n c) (.slice b m d) (.slice p q e) (.slice r s t) (.int .i64 f) 25
  have HGD : Hid (Jb.goodB xs ws L M f = (Mx.sameB xs ws && (decide (s ≤ 60) && (Pf.inB f 0 60 && (Jb.stB xs M && Jb.endB xs ws L))))) := hide (by unfold Jb.goodB; rw [HM.out])
  have HQ20 : Hid (20 < q → Jb.endB xs ws L = false) := hide fun h => by
    have h0 : L.isEmpty = false := by cases L with
      | nil => have := HL.out; simp at this; omega
      | cons _ _ => rfl
    unfold Jb.endB
    rw [h0, HL.out]
    have : ¬ q ≤ 20 := by omega
    simp [this]
  have HNO : Hid ((Mx.run xs L).isSome = false → Jb.endB xs ws L = false) := hide fun h => by
    cases L with
    | nil => simp [Mx.run] at h
    | cons x r => cases hr : Mx.run xs (x :: r) with
      | none => simp [Jb.endB, hr]
      | some _ => rw [hr] at h; cases h
  have HEN : Hid (q = 0 → Jb.endB xs ws L = true) := hide fun h => end_nil16 (by rw [HL.out]; exact h)
  have HES : Hid (q ≠ 0 → q ≤ 20 → (Mx.run xs L).isSome = true → Jb.endB xs ws L = decide ((Mx.run xs L).getD [] = ws) ∧ ((Mx.run xs L).getD []).length = n) := hide fun h h2 h3 => by
    obtain ⟨ys, hr⟩ := Option.isSome_iff_exists.1 h3
    have h0 : L.isEmpty = false := by cases L with
      | nil => have := HL.out; simp at this; omega
      | cons _ _ => rfl
    rw [hr, Option.getD_some]
    refine ⟨?_, by rw [Mx.run_len _ hr]; exact HX.out⟩
    unfold Jb.endB
    rw [h0, hr, HL.out]
    simp [h2, Bool.beq_eq_decide_eq]
  have HSG := hide fun (h : Mx.sameB xs ws = true) => show (1 ≤ n ∧ n ≤ 9) ∧ m = n from by
    have h1 := Mx.good_len (Mx.same_good h).1
    have h2 := (Mx.same_good h).2.2.length_eq
    have := HX.out
    have := HY.out
    exact ⟨by omega, by omega⟩
  have HA1 := hide (HA.out.below hb0)
  have HB1 := hide (HB.out.below hb0)
  have HF1 := hide (HF.out.below hb0)
  have HK1 := hide (HK.out.below hb0)
  have HB0 := hide hb0
  have HJ0 := hide hj0
  generalize Jb.goodB xs ws L M f = G at *
  obtain ⟨c0, c1, c2, c3, c4, _⟩ := hj0
  clear hb0 HA HB HF HK
  cases hs : Mx.sameB xs ws
  · have HN : Hid (G = false) := hide (by rw [HGD.out, hs]; rfl)
    have HS := hide hs
    clear hs HGD HSG
    go_enter Try.func18, Try.ntmps18
    go_wp2_with fail
    refine (lb_eq HX HY hc hd HA1 HB1 HS).mono ?_
    rintro _ w1 ⟨rfl, hw1⟩
    obtain rfl := hw1.symm
    go_wp2_with fail
    go_ret
    exact ⟨ret_bool HN.out.symm, HB0.out⟩
  · have HS := hide hs
    obtain ⟨⟨n1, n9⟩, hmn⟩ := HSG.out hs
    subst hmn
    rw [hs] at HGD
    clear hs HSG
    by_cases h20 : q ≤ 20
    · have z20 : ¬ (20 : Int) < (q : Int) := by omega
      by_cases h60 : s ≤ 60
      · have z60 : ¬ (60 : Int) < (s : Int) := by omega
        cases hf : Pf.inB f 0 60
        · have HN : Hid (G = false) := hide (by rw [HGD.out, hf]; simp)
          clear HGD
          go_enter Try.func18, Try.ntmps18
          go_wp2_with fail
          refine (lb_eq HX HY hc hd HA1 HB1 HS).mono ?_
          rintro _ w1 ⟨rfl, hw1⟩
          obtain rfl := hw1.symm
          go_wp2_with fail
          refine (in_eq hf).mono ?_
          rintro _ w2 ⟨rfl, hw2⟩
          obtain rfl := hw2.symm
          go_wp2_with fail
          go_ret
          exact ⟨ret_bool HN.out.symm, HB0.out⟩
        · have HR : Hid (G = (Jb.stB xs M && Jb.endB xs ws L)) := hide (by rw [HGD.out, hf]; simp [h60])
          clear HGD
          have HRN := hide (srn_any (c := c) (d := e) HX n1 n9 HA1 HL (show q ≤ 1000 by omega) HF1)
          have HST := hide fun (W : World) (hA : ARow W a xs) (hK : FRow W r M) => sst_any (c := c) (d := t) HX n1 n9 (hide hA) HM (show s ≤ 1000 by omega) (hide hK)
          generalize Jb.stB xs M = S at *
          generalize Jb.endB xs ws L = E at *
          generalize (Mx.run xs L).isSome = O at *
          generalize (Mx.run xs L).getD [] = R at *
          go_enter Try.func18, Try.ntmps18
          go_wp2_with fail
          refine (lb_eq HX HY hc hd HA1 HB1 HS).mono ?_
          rintro _ w1 ⟨rfl, hw1⟩
          obtain rfl := hw1.symm
          go_wp2_with fail
          refine (in_eq hf).mono ?_
          rintro _ w2 ⟨rfl, hw2⟩
          obtain rfl := hw2.symm
          go_wp2_with fail
          refine HRN.out.mono ?_
          rintro _ w3 ⟨v, rfl, hb3, o3⟩
          have HJ3 := hide (HJ0.out.below hb3)
          obtain ⟨d0, d1, d2, d3, d4, _⟩ := HJ3.out
          have HB3 := hide (HB0.out.trans (hb3.mono HB0.out.size))
          have HC := hide (HST.out w3 (HA1.out.below hb3) (HK1.out.below hb3))
          have HB1' := hide (HB1.out.below hb3)
          have HO3 := hide o3
          clear HRN HST HA1 HB1 HF1 HK1 hb3 o3 HJ0 HB0 c0 c1 c2 c3 c4
          go_wp2_with fail
          refine HC.out.mono ?_
          rintro _ w4 ⟨v4, rfl, hb4, _⟩
          have HJ4 := hide (HJ3.out.below hb4)
          obtain ⟨e0, e1, e2, e3, e4, _⟩ := HJ4.out
          have HB4 := hide (HB3.out.trans (hb4.mono HB3.out.size))
          have HBW := hide (HB1'.out.below hb4)
          have HO4 := hide (HO3.out.below hb4)
          clear HC HB1' HO3 hb4 HJ3 HB3 d0 d1 d2 d3 d4
          cases O
          · have HN : Hid (G = false) := hide (by rw [HR.out, HNO.out rfl]; simp)
            go_wp2_with fail
            go_ret
            exact ⟨ret_bool HN.out.symm, HB4.out⟩
          · cases S
            · have HN : Hid (G = false) := hide (by rw [HR.out]; rfl)
              go_wp2_with fail
              go_ret
              exact ⟨ret_bool HN.out.symm, HB4.out⟩
            · by_cases hq : q = 0
              · have HN : Hid (G = true) := hide (by rw [HR.out, HEN.out hq]; rfl)
                subst hq
                go_wp2_with fail
                go_ret
                exact ⟨ret_bool HN.out.symm, HB4.out⟩
              · have q0 : ((q : Int) == 0) = false := by simp; omega
                obtain ⟨hE, hl⟩ := HES.out hq h20 rfl
                have HN : Hid (G = decide (R = ws)) := hide (by rw [HR.out, hE]; rfl)
                have ho := HO4.out
                rw [hl] at ho
                obtain ⟨a', c', rfl, hr⟩ := ho.row hl
                have HC := hide (sm16 (c := c') (d := d) (hide hl) HY n1 (by omega) hr HBW.out)
                clear ho hr hl hE HES HEN HNO HR
                generalize decide (R = ws) = D at *
                go_wp2_with fail
                refine HC.out.mono ?_
                rintro _ w5 ⟨rfl, hb5⟩
                have HB5 := hide (HB4.out.trans (hb5.mono HB4.out.size))
                clear HC hb5
                go_wp2_with fail
                go_ret
                exact ⟨ret_bool HN.out.symm, HB5.out⟩
      · have z60 : (60 : Int) < (s : Int) := by omega
        have HN : Hid (G = false) := hide (by rw [HGD.out]; simp [h60])
        clear HGD
        go_enter Try.func18, Try.ntmps18
        go_wp2_with fail
        refine (lb_eq HX HY hc hd HA1 HB1 HS).mono ?_
        rintro _ w1 ⟨rfl, hw1⟩
        obtain rfl := hw1.symm
        go_wp2_with fail
        go_ret
        exact ⟨ret_bool HN.out.symm, HB0.out⟩
    · have z20 : (20 : Int) < (q : Int) := by omega
      have HN : Hid (G = false) := hide (by rw [HGD.out, HQ20.out (by omega)]; simp)
      clear HGD
      go_enter Try.func18, Try.ntmps18
      go_wp2_with fail
      refine (lb_eq HX HY hc hd HA1 HB1 HS).mono ?_
      rintro _ w1 ⟨rfl, hw1⟩
      obtain rfl := hw1.symm
      go_wp2_with fail
      go_ret
      exact ⟨ret_bool HN.out.symm, HB0.out⟩
theorem sgj_eq {a b p r : Option Addr} {n m c d q e s t : Nat} {f : Int} {xs ws : List Int} {L M : List (Int × Int)} {w : World} {g : Bool} (HX : Hid (xs.length = n)) (HY : Hid (ws.length = m)) (hc : n ≤ c) (hd : m ≤ d) (HA : Hid (ARow w a xs)) (HB : Hid (ARow w b ws)) (HL : Hid (L.length = q)) (HF : Hid (FRow w p L)) (HM : Hid (M.length = s)) (HK : Hid (FRow w r M)) (hg : Hid (Jb.goodB xs ws L M f = g)) :
    Calls Try.prog 18 #[.agg #[.slice a n c, .slice b m d, .slice p q e, .slice r s t, .int .i64 f]] w fun e w' => e = .returned (.bool g) ∧ Below w.heap.size w w' := hg.out ▸ sgj_any HX HY hc hd HA HB HL HF HM HK
end Go.Proofs.Ytnjkdfeajlnojaa
namespace Go.Proofs.Ytnjkdfeajlnojaa
open Go.RowKit

theorem heldFO16 {w w1 w2 : World} {b c i i' : Nat} {v0 v1 v2 v3 : Value} (hb : b < w.heap.size) (hc : c < w.heap.size)
    (s : w1.cell? ⟨b, i, none⟩ = some v0 ∧ w1.cell? ⟨b, i + 1, none⟩ = some v1 ∧ w1.cell? ⟨c, i', none⟩ = some v2 ∧ w1.cell? ⟨c, i' + 1, none⟩ = some v3 ∧ Below w.heap.size w w1 ∧ w.heap.size ≤ w1.heap.size) (hb2 : Below w1.heap.size w1 w2) :
    w2.cell? ⟨b, i, none⟩ = some v0 ∧ w2.cell? ⟨b, i + 1, none⟩ = some v1 ∧ w2.cell? ⟨c, i', none⟩ = some v2 ∧ w2.cell? ⟨c, i' + 1, none⟩ = some v3 ∧ Below w.heap.size w w2 ∧ w.heap.size ≤ w2.heap.size := by
  obtain ⟨s0, s1, s2, s3, s4, s5⟩ := s
  obtain ⟨h, _⟩ := bcell hb2
  exact ⟨(h _ _ (by omega)).trans s0, (h _ _ (by omega)).trans s1, (h _ _ (by omega)).trans s2, (h _ _ (by omega)).trans s3, s4.trans (hb2.mono s5), Nat.le_trans s5 hb2.size⟩

set_option maxHeartbeats 2000000 in
theorem eqO16 (b c o u cap cap' : Nat) (xs : List (Int × Int)) (w : World) (hlen : xs.length ≤ 1048576) (hb : b < w.heap.size) (hc : c < w.heap.size) (h1 : FAt w b o xs) (h2 : FAt w c u xs) :
    Calls Try.prog 37 #[.slice (some ⟨b, o, none⟩) xs.length cap, .slice (some ⟨c, u, none⟩) xs.length cap'] w fun e w' => e = .returned (.bool true) ∧ Below w.heap.size w w' := by
  have hne : ((xs.length : Int) != (xs.length : Int)) = false := by simp
  go_enter Try.func37, Try.ntmps37
  go_wp2_with fail
  go_loopw [5] (fun s wr => ∃ (k : Nat), s = .int .i64 k ∧ k ≤ xs.length ∧ Below w.heap.size w wr ∧ w.heap.size ≤ wr.heap.size) (fun s _ => xs.length - (intOf s).toNat)
  case atStart => exact ⟨0, rfl, Nat.zero_le _, Below.refl _ _, Nat.le_refl _⟩
  case round =>
    obtain ⟨k, rfl, hk, hB, hz⟩ := hrel
    by_cases hlt : k < xs.length
    · obtain ⟨r0, r1⟩ := h1 k hlt
      obtain ⟨s0, s1⟩ := h2 k hlt
      have r0' := (hB.cell (p := ⟨b, o + k * 2, none⟩) hb).trans r0
      have r1' := (hB.cell (p := ⟨b, o + k * 2 + 1, none⟩) hb).trans r1
      have s0' := (hB.cell (p := ⟨c, u + k * 2, none⟩) hc).trans s0
      have s1' := (hB.cell (p := ⟨c, u + k * 2 + 1, none⟩) hc).trans s1
      generalize (xs.getD k (0, 0)) = x at *
      obtain ⟨x1, x2⟩ := x
      clear r0 r1 s0 s1
      have i0 : (0 : Int) ≤ (k : Int) := by omega
      have i1 : (k : Int) < (xs.length : Int) := by omega
      go_wp2_with fail
      go_region_held3 (fun w' => w'.cell? ⟨b, o + k * 2, none⟩ = some (.int .i64 x1) ∧ w'.cell? ⟨b, o + k * 2 + 1, none⟩ = some (.int .i64 x2) ∧ w'.cell? ⟨c, u + k * 2, none⟩ = some (.int .i64 x1) ∧ w'.cell? ⟨c, u + k * 2 + 1, none⟩ = some (.int .i64 x2) ∧ Below w.heap.size w w' ∧ w.heap.size ≤ w'.heap.size)
        (first | exact ⟨r0', r1', s0', s1', hB.drew, hz⟩ | assumption | exact heldFO16 hb hc ‹_› (by assumption))
        (first
        | (go_at_call 23; refine (eqFam_same _ _ _).mono ?_; rintro e w1 ⟨rfl, hb1⟩))
      go_wp2_with fail
      obtain ⟨_, _, _, _, hB2, hz2⟩ := ‹_ ∧ _ ∧ _ ∧ _ ∧ _ ∧ _›
      exact ⟨⟨k + 1, by go_num, by omega, hB2, hz2⟩, by simp only [intOf]; omega⟩
    · go_wp2_with fail
      go_ret
      exact ⟨rfl, hB⟩
theorem eqr_mv {a b : Option Addr} {n c d : Nat} {L : List (Int × Int)} {w : World} (hl : L.length = n) (hn : n ≤ 1048576) (h1 : FRow w a L) (h2 : FRow w b L) :
    Calls Try.prog 37 #[.slice a n c, .slice b n d] w fun e w' => e = .returned (.bool true) ∧ Below w.heap.size w w' := by
  subst hl
  rcases h1 with rfl | ⟨g, o, rfl, hg, r1⟩
  · exact (eqM_zero a b c d w).mono fun e w' ⟨he, hw⟩ => ⟨he, hw ▸ Below.refl _ _⟩
  · rcases h2 with rfl | ⟨g', o', rfl, hg', r2⟩
    · exact (eqM_zero _ b c d w).mono fun e w' ⟨he, hw⟩ => ⟨he, hw ▸ Below.refl _ _⟩
    · exact eqO16 g g' o o' c d L w hn hg hg' r1 r2
def LooseO (w : World) (B o m : Nat) : Prop := ∀ j, j < m → (w.cell? ⟨B, o + j, none⟩).isSome = true ∧ w.frozen? ⟨B, o + j, none⟩ = false
theorem LooseO.keep {w w' : World} {B o m : Nat} (h : LooseO w B o m) (hb : w'.heap[B]? = w.heap[B]?) : LooseO w' B o m := fun j hj =>
  ⟨by rw [World.cell?_of_block (w := w) (a := ⟨B, o + j, none⟩) hb]; exact (h j hj).1, (World.frozen?_of_block (w := w) (a := ⟨B, o + j, none⟩) hb).trans (h j hj).2⟩
theorem LooseO.set {w : World} {B o m i : Nat} {v : Value} (h : LooseO w B o m) : LooseO (w.setCell ⟨B, i, none⟩ v) B o m := fun j hj => by
  obtain ⟨h1, h2⟩ := h j hj
  refine ⟨?_, by rw [World.frozen?_setCell]; exact h2⟩
  by_cases e : o + j = i
  · subst e
    obtain ⟨u, hu⟩ := Option.isSome_iff_exists.1 h1
    rw [World.cell?_setCell_same _ _ _ hu]; rfl
  · rw [World.cell?_setCell_other _ _ _ _ (fun e' => e (by injection e' with _ e2; exact e2.symm))]; exact h1
theorem mark_cellsO {W : World} {B o i : Nat} {k z : Int} (h : ∀ j : Nat, j < i → W.cell? ⟨B, o + j, none⟩ = some (.int .i64 (k + (j : Int)))) (hi : (W.cell? ⟨B, o + i, none⟩).isSome = true) (hz : z = k + (i : Int)) : ∀ j : Nat, j < i + 1 → (W.setCell ⟨B, o + i, none⟩ (.int .i64 z)).cell? ⟨B, o + j, none⟩ = some (.int .i64 (k + (j : Int))) := fun j hj => by
  by_cases e : j = i
  · subst e; subst hz; exact setF1 hi
  · rw [World.cell?_setCell_other _ _ _ _ (fun e' => e (by injection e' with _ e2; omega))]; exact h j (by omega)
set_option maxHeartbeats 1000000 in
theorem markO16 (B o n cap : Nat) (k : Int) (w : World) (hn : n ≤ 1048576) (k0 : 0 < k) (k1 : k ≤ 900000000) (hl : LooseO w B o (n * 2)) :
    Calls Try.prog 38 #[.slice (some ⟨B, o, none⟩) n cap, .int .i64 k] w fun e w' => e = .returned (.int .i64 (k + n * 2)) ∧ w.grownBy w' (some B) ∧ ∀ j : Nat, j < n * 2 → w'.cell? ⟨B, o + j, none⟩ = some (.int .i64 (k + (j : Int))) := by
  have HL := hide hl
  clear hl
  go_enter Try.func38, Try.ntmps38
  go_wp2_with fail
  go_loopw [1, 5] (fun s t wr => ∃ (i : Nat), t = .int .i64 i ∧ s = .int .i64 (k + i * 2) ∧ i ≤ n ∧ Hid (LooseO wr B o (n * 2)) ∧ Hid (w.grownBy wr (some B)) ∧ Hid (∀ j : Nat, j < i * 2 → wr.cell? ⟨B, o + j, none⟩ = some (.int .i64 (k + (j : Int))))) (fun _ t _ => n - (intOf t).toNat)
  case atStart => exact ⟨0, rfl, by simp, Nat.zero_le _, HL, hide (World.grownBy.refl _ _), hide fun j hj => absurd hj (by omega)⟩
  case round =>
    obtain ⟨i, rfl, rfl, hi, HJ, hg, HC⟩ := hrel
    by_cases hlt : i < n
    · have i0 : (0 : Int) ≤ (i : Int) := by omega
      have i1 : (i : Int) < (n : Int) := by omega
      obtain ⟨q0, f0⟩ := HJ.out (i * 2) (by omega)
      obtain ⟨q1, f1⟩ := HJ.out (i * 2 + 1) (by omega)
      have HC1 := hide (mark_cellsO (z := k + (i : Int) * 2) HC.out q0 (by omega))
      have q1' := ((HJ.out.set (i := o + i * 2) (v := .int .i64 (k + (i : Int) * 2))) (i * 2 + 1) (by omega)).1
      have HC2 := hide (mark_cellsO (z := k + (i : Int) * 2 + 1) HC1.out q1' (by omega))
      obtain ⟨v0, c0⟩ := Option.isSome_iff_exists.1 q0
      obtain ⟨v1, c1⟩ := Option.isSome_iff_exists.1 q1
      have a1 : o + (i * 2 + 1) = o + i * 2 + 1 := by omega
      rw [a1] at f1 c1 HC2
      clear q0 q1 q1' HC1 a1
      go_wp2_with fail
      refine ⟨⟨i + 1, by go_num, by go_num, by omega, ?_, ?_, ?_⟩, by simp only [intOf]; omega⟩
      · exact hide (HJ.out.set.set)
      · exact hide (grownF_set (grownF_set hg.out))
      · exact hide fun j hj => HC2.out j (by omega)
    · have hin : i = n := by omega
      subst hin
      go_wp2_with fail
      go_ret
      exact ⟨rfl, hg.out, HC.out⟩
set_option maxHeartbeats 1000000 in
theorem heldO16 (B o n cap : Nat) (k : Int) (w : World) (hn : n ≤ 1048576) (k0 : 0 < k) (k1 : k ≤ 900000000) (hl : ∀ j : Nat, j < n * 2 → w.cell? ⟨B, o + j, none⟩ = some (.int .i64 (k + (j : Int)))) :
    Calls Try.prog 40 #[.slice (some ⟨B, o, none⟩) n cap, .int .i64 k] w fun e w' => e = .returned (.int .i64 (k + n * 2)) ∧ w' = w := by
  have HL := hide hl
  clear hl
  go_enter Try.func40, Try.ntmps40
  go_wp2_with fail
  go_loop [1, 4, 5] (fun s _ t => ∃ (i : Nat), t = .int .i64 i ∧ s = .int .i64 (k + i * 2) ∧ i ≤ n) (fun _ _ t => n - (intOf t).toNat)
  case atStart => exact ⟨0, rfl, by simp, Nat.zero_le _⟩
  case round =>
    obtain ⟨i, rfl, rfl, hi⟩ := hrel
    by_cases hlt : i < n
    · have i0 : (0 : Int) ≤ (i : Int) := by omega
      have i1 : (i : Int) < (n : Int) := by omega
      have c0 : w.cell? ⟨B, o + i * 2, none⟩ = some (.int .i64 (k + (i : Int) * 2)) := (HL.out (i * 2) (by omega)).trans (congrArg (fun z => some (Value.int .i64 z)) (by omega))
      have c1 : w.cell? ⟨B, o + i * 2 + 1, none⟩ = some (.int .i64 (k + (i : Int) * 2 + 1)) := (HL.out (i * 2 + 1) (by omega)).trans (congrArg (fun z => some (Value.int .i64 z)) (by omega))
      have n0 : (k + (i : Int) * 2 != k + (i : Int) * 2) = false := by simp
      have n1 : (k + (i : Int) * 2 + 1 != k + (i : Int) * 2 + 1) = false := by simp
      go_wp2_with fail
      go_round
      case rel => exact ⟨i + 1, by go_num, by go_num, by omega⟩
      case measure => simp only [intOf]; omega
    · have hin : i = n := by omega
      subst hin
      go_wp2_with fail
      go_ret
      exact ⟨rfl, rfl⟩
/-- Moves that may be written. -/
def MV (w : World) (v : Value) (n : Nat) (L : List (Int × Int)) : Prop :=
  L.length = n ∧ ((n = 0 ∧ ∃ a c, v = .slice a 0 c) ∨ ∃ g o cap, v = .slice (some ⟨g, o, none⟩) n cap ∧ g < w.heap.size ∧ FAt w g o L ∧ LooseO w g o (n * 2))
theorem MO.mv {w : World} {lo hi n : Nat} {v : Value} {L : List (Int × Int)} (h : MO w lo hi v n L) : MV w v n L := by
  obtain ⟨h1, h2, h3⟩ := h
  refine ⟨h2, ?_⟩
  rcases h3 with h3 | ⟨g, cap, e, a1, a2, a3, a4⟩
  · exact Or.inl h3
  · exact Or.inr ⟨g, 0, cap, e, by omega, a3, fun j hj => by rw [Nat.zero_add]; exact a4 j hj⟩
theorem MV.keep {w w' : World} {v : Value} {n : Nat} {L : List (Int × Int)} (h : MV w v n L) (hs : w.heap.size ≤ w'.heap.size) (hb : ∀ g, moB v n = some g → w'.heap[g]? = w.heap[g]?) : MV w' v n L := by
  obtain ⟨h1, h2⟩ := h
  refine ⟨h1, ?_⟩
  by_cases h0 : n = 0
  · rcases h2 with h2 | ⟨g, o, cap, e, _⟩
    · exact Or.inl h2
    · exact Or.inl ⟨h0, _, _, by rw [e, h0]⟩
  · rcases h2 with h2 | ⟨g, o, cap, rfl, a1, a2, a3⟩
    · exact Or.inl h2
    · have hk := hb g (by unfold moB; rw [if_neg h0]; rfl)
      exact Or.inr ⟨g, o, cap, rfl, Nat.lt_of_lt_of_le a1 hs, a2.keep hk, a3.keep hk⟩
theorem MV.below {w w' : World} {v : Value} {n : Nat} {L : List (Int × Int)} (h : MV w v n L) (hb : Below w.heap.size w w') : MV w' v n L := by
  obtain ⟨h1, h2⟩ := h
  refine ⟨h1, ?_⟩
  rcases h2 with h2 | ⟨g, o, cap, rfl, a1, a2, a3⟩
  · exact Or.inl h2
  · exact Or.inr ⟨g, o, cap, rfl, Nat.lt_of_lt_of_le a1 hb.size, a2.keep (hb.block g a1), a3.keep (hb.block g a1)⟩
theorem MV.row {w : World} {v : Value} {n : Nat} {L : List (Int × Int)} (h : MV w v n L) : ∃ a c, v = .slice a n c ∧ FRow w a L := by
  obtain ⟨h1, h2⟩ := h
  rcases h2 with ⟨rfl, a, c, rfl⟩ | ⟨g, o, cap, rfl, a1, a2, _⟩
  · exact ⟨a, c, rfl, Or.inl (List.length_eq_zero_iff.1 h1)⟩
  · exact ⟨_, cap, rfl, a2.row a1⟩
/-- What is held: it counts on from k. -/
def MHo (w : World) (v : Value) (n : Nat) (k : Int) : Prop := (n = 0 ∧ ∃ a c, v = .slice a 0 c) ∨ ∃ g o cap, v = .slice (some ⟨g, o, none⟩) n cap ∧ g < w.heap.size ∧ ∀ j : Nat, j < n * 2 → w.cell? ⟨g, o + j, none⟩ = some (.int .i64 (k + (j : Int)))
theorem MHo.below {w w' : World} {v : Value} {n : Nat} {k : Int} (h : MHo w v n k) (hb : Below w.heap.size w w') : MHo w' v n k := by
  rcases h with h | ⟨g, o, cap, e, hl, hc⟩
  · exact Or.inl h
  · exact Or.inr ⟨g, o, cap, e, Nat.lt_of_lt_of_le hl hb.size, fun j hj => (hb.cell (p := ⟨g, o + j, none⟩) hl).trans (hc j hj)⟩
theorem MHo.keep {w w' : World} {v : Value} {n : Nat} {k : Int} (h : MHo w v n k) (hs : w.heap.size ≤ w'.heap.size) (hb : ∀ g, moB v n = some g → w'.heap[g]? = w.heap[g]?) : MHo w' v n k := by
  by_cases h0 : n = 0
  · rcases h with h | ⟨g, o, cap, e, _⟩
    · exact Or.inl h
    · exact Or.inl ⟨h0, _, _, by rw [e, h0]⟩
  · rcases h with h | ⟨g, o, cap, rfl, hl, hc⟩
    · exact Or.inl h
    · have hk := hb g (by unfold moB; rw [if_neg h0]; rfl)
      exact Or.inr ⟨g, o, cap, rfl, Nat.lt_of_lt_of_le hl hs, fun j hj => (World.cell?_of_block (a := ⟨g, o + j, none⟩) hk).trans (hc j hj)⟩
theorem mark_mv {w : World} {n : Nat} {v : Value} {L : List (Int × Int)} {k : Int} (hn : n ≤ 1048576) (k0 : 0 < k) (k1 : k ≤ 900000000) (h : MV w v n L) :
    Calls Try.prog 38 #[v, .int .i64 k] w fun e w' => e = .returned (.int .i64 (k + n * 2)) ∧ MHo w' v n k ∧ w.grownBy w' (moB v n) := by
  by_cases h0 : n = 0
  · obtain ⟨a, c, rfl, _⟩ := h.row
    subst h0
    exact (markM_zero a c k w).mono fun e w' ⟨he, hw⟩ => ⟨by rw [he]; simp, Or.inl ⟨rfl, _, _, rfl⟩, hw ▸ World.grownBy.refl _ _⟩
  · rcases h.2 with ⟨h1, _⟩ | ⟨g, o, cap, rfl, a1, a2, a3⟩
    · exact absurd h1 h0
    · refine (markO16 g o n cap k w hn k0 k1 a3).mono fun e w' ⟨he, hg, hc⟩ => ⟨he, Or.inr ⟨g, o, cap, rfl, Nat.lt_of_lt_of_le a1 hg.size, hc⟩, ?_⟩
      unfold moB; rw [if_neg h0]; exact hg
theorem held_mv {w : World} {n : Nat} {v : Value} {k : Int} (hn : n ≤ 1048576) (k0 : 0 < k) (k1 : k ≤ 900000000) (h : MHo w v n k) :
    Calls Try.prog 40 #[v, .int .i64 k] w fun e w' => e = .returned (.int .i64 (k + n * 2)) ∧ w' = w := by
  rcases h with ⟨h0, a, c, rfl⟩ | ⟨g, o, cap, rfl, _, hc⟩
  · subst h0
    exact (heldM_zero a c k w).mono fun e w' ⟨he, hw⟩ => ⟨by rw [he]; simp, hw⟩
  · exact heldO16 g o n cap k w hn k0 k1 hc
end Go.Proofs.Ytnjkdfeajlnojaa
namespace Go.Proofs.Ytnjkdfeajlnojaa
open Go.RowKit

/-- Not the same block. -/
def Dis (p q : Option Nat) : Prop := ∀ g, p = some g → q ≠ some g
theorem Dis.symm {p q : Option Nat} (h : Dis p q) : Dis q p := fun g e e' => h g e' e
/-- What a job is in memory, to be read. -/
structure JIn (w : World) (v : Value) (x : Jb.J) : Prop where
  ex : ∃ (a b p r : Option Addr) (c d e t : Nat), v = .agg #[.slice a x.xs.length c, .slice b x.ws.length d, .slice p x.L.length e, .slice r x.M.length t, .int .i64 x.f] ∧ x.xs.length ≤ c ∧ x.ws.length ≤ d ∧ ARow w a x.xs ∧ ARow w b x.ws ∧ FRow w p x.L ∧ FRow w r x.M
theorem JIn.below {w w' : World} {v : Value} {x : Jb.J} (h : JIn w v x) (hb : Below w.heap.size w w') : JIn w' v x := by
  obtain ⟨a, b, p, r, c, d, e, t, h1, h2, h3, h4, h5, h6, h7⟩ := h.ex
  exact ⟨a, b, p, r, c, d, e, t, h1, h2, h3, h4.below hb, h5.below hb, h6.below hb, h7.below hb⟩
/-- A job of one's own: its lists lie from lo on and below hi, no two in one block. -/
structure JR (w : World) (lo hi : Nat) (v : Value) (x : Jb.J) : Prop where
  ex : ∃ a b l m, v = .agg #[a, b, l, m, .int .i64 x.f] ∧ w.ownsRow lo 3 1 a x.xs.length (ints x.xs) ∧ w.ownsRow lo 3 1 b x.ws.length (ints x.ws) ∧ MV w l x.L.length x.L ∧ MV w m x.M.length x.M ∧
    (∀ g, a.ownBlock = some g ∨ b.ownBlock = some g ∨ moB l x.L.length = some g ∨ moB m x.M.length = some g → lo ≤ g ∧ g < hi) ∧ hi ≤ w.heap.size ∧
    Dis a.ownBlock b.ownBlock ∧ Dis a.ownBlock (moB l x.L.length) ∧ Dis a.ownBlock (moB m x.M.length) ∧ Dis b.ownBlock (moB l x.L.length) ∧ Dis b.ownBlock (moB m x.M.length) ∧ Dis (moB l x.L.length) (moB m x.M.length)
theorem JR.keep {w w' : World} {lo hi : Nat} {v : Value} {x : Jb.J} (h : JR w lo hi v x) (hs : w.heap.size ≤ w'.heap.size) (hb : ∀ g, lo ≤ g → g < hi → w'.heap[g]? = w.heap[g]?) : JR w' lo hi v x := by
  obtain ⟨a, b, l, m, h1, h2, h3, h4, h5, h6, h7, h8⟩ := h.ex
  exact ⟨a, b, l, m, h1, own_keep2 h2 (fun g e _ => hb g (h6 g (Or.inl e)).1 (h6 g (Or.inl e)).2), own_keep2 h3 (fun g e _ => hb g (h6 g (Or.inr (Or.inl e))).1 (h6 g (Or.inr (Or.inl e))).2),
    h4.keep hs (fun g e => hb g (h6 g (Or.inr (Or.inr (Or.inl e)))).1 (h6 g (Or.inr (Or.inr (Or.inl e)))).2), h5.keep hs (fun g e => hb g (h6 g (Or.inr (Or.inr (Or.inr e)))).1 (h6 g (Or.inr (Or.inr (Or.inr e)))).2), h6, Nat.le_trans h7 hs, h8⟩
theorem JR.hi {w : World} {lo hi : Nat} {v : Value} {x : Jb.J} (h : JR w lo hi v x) : hi ≤ w.heap.size := by
  obtain ⟨_, _, _, _, _, _, _, _, _, _, h7, _⟩ := h.ex
  exact h7
theorem JR.below {w w' : World} {lo hi : Nat} {v : Value} {x : Jb.J} (h : JR w lo hi v x) (hb : Below w.heap.size w w') : JR w' lo hi v x := h.keep hb.size (fun g _ h2 => hb.block g (by have := h.hi; omega))
theorem JR.rng {w w' : World} {lo hi a b : Nat} {v : Value} {x : Jb.J} (h : JR w lo hi v x) (hr : Rng a b w w') (hd : hi ≤ a ∨ b ≤ lo) : JR w' lo hi v x := h.keep hr.2.2.2.1 (fun g h1 h2 => hr.2.2.2.2 g (by have := h.hi; omega) (by omega))
theorem own_form3 {w : World} {base n : Nat} {v : Value} {xs : List Int} (hx : xs.length = n) (h : w.ownsRow base 3 1 v n (ints xs)) : ∃ a c, v = .slice a n c ∧ n ≤ c ∧ ARow w a xs := by
  obtain ⟨a, c, e, hr⟩ := own_row hx h
  refine ⟨a, c, e, ?_, hr⟩
  rcases h.2 with ⟨e', hn⟩ | ⟨g, cap, cur, e', _, _, hnc, _⟩
  · omega
  · rw [e] at e'; cases e'; exact hnc
theorem JR.jin {w : World} {lo hi : Nat} {v : Value} {x : Jb.J} (h : JR w lo hi v x) : JIn w v x := by
  obtain ⟨a, b, l, m, rfl, h2, h3, h4, h5, _⟩ := h.ex
  obtain ⟨a', c, rfl, hc, ra⟩ := own_form3 rfl h2
  obtain ⟨b', d, rfl, hd, rb⟩ := own_form3 rfl h3
  obtain ⟨p, e, rfl, rp⟩ := h4.row
  obtain ⟨r, t, rfl, rr⟩ := h5.row
  exact ⟨a', b', p, r, c, d, e, t, rfl, hc, hd, ra, rb, rp, rr⟩
def zeroJ : Jb.J := ⟨[], [], [], [], 0⟩
theorem JR.zero (w : World) (lo hi : Nat) (hh : hi ≤ w.heap.size) : JR w lo hi (.agg #[.slice none 0 0, .slice none 0 0, .slice none 0 0, .slice none 0 0, .int .i64 0]) zeroJ :=
  ⟨_, _, _, _, rfl, World.ownsRow_nil _ _ _ _, World.ownsRow_nil _ _ _ _, ⟨rfl, Or.inl ⟨rfl, _, _, rfl⟩⟩, ⟨rfl, Or.inl ⟨rfl, _, _, rfl⟩⟩, fun g h => by simp [Value.ownBlock, moB, zeroJ] at h, hh,
    fun g e => by simp [Value.ownBlock] at e, fun g e => by simp [Value.ownBlock] at e, fun g e => by simp [Value.ownBlock] at e, fun g e => by simp [Value.ownBlock] at e, fun g e => by simp [Value.ownBlock] at e, fun g e => by simp [moB, zeroJ] at e⟩
/-- How many marks a job takes. -/
def wgt (x : Jb.J) : Nat := x.xs.length + x.ws.length + x.L.length * 2 + x.M.length * 2
/-- What is held in a job, from k on. -/
structure HJ (w : World) (v : Value) (x : Jb.J) (k : Int) : Prop where
  ex : ∃ a b l m, v = .agg #[a, b, l, m, .int .i64 x.f] ∧ HV w a x.xs.length k ∧ HV w b x.ws.length (k + x.xs.length) ∧ MHo w l x.L.length (k + x.xs.length + x.ws.length) ∧ MHo w m x.M.length (k + x.xs.length + x.ws.length + x.L.length * 2)
theorem HJ.below {w w' : World} {v : Value} {x : Jb.J} {k : Int} (h : HJ w v x k) (hb : Below w.heap.size w w') : HJ w' v x k := by
  obtain ⟨a, b, l, m, h1, h2, h3, h4, h5⟩ := h.ex
  exact ⟨a, b, l, m, h1, h2.below hb, h3.below hb, h4.below hb, h5.below hb⟩
set_option maxHeartbeats 1000000 in
theorem szJ_yes {a b p r : Option Addr} {n m q s c d e t : Nat} {f : Int} {w : World} (h : n + m + q + s ≤ 1048576) :
    Calls Try.prog 17 #[.agg #[.slice a n c, .slice b m d, .slice p q e, .slice r s t, .int .i64 f], .int .i64 1048576] w fun e w' => e = .returned (.int .i64 (1048576 - n - m - q - s)) ∧ Below w.heap.size w w' := by
  have hb0 := below_new w (.cells #[.slice a n c, .slice b m d, .slice p q e, .slice r s t, .int .i64 f] 35)
  have z1 : ¬ (1048576 : Int) - (n : Int) < 0 := by omega
  have z2 : ¬ (1048576 : Int) - (n : Int) - (m : Int) < 0 := by omega
  have z3 : ¬ (1048576 : Int) - (n : Int) - (m : Int) - (q : Int) < 0 := by omega
  have z4 : ¬ (1048576 : Int) - (n : Int) - (m : Int) - (q : Int) - (s : Int) < 0 := by omega
  go_enter Try.func17, Try.ntmps17
  go_wp2_with fail
  refine (szI_yes a n c _ _ (by omega) (by omega) (by omega)).mono ?_
  rintro _ w1 ⟨rfl, hw1⟩
  obtain rfl := hw1.symm
  go_wp2_with fail
  refine (szI_yes b m d _ _ (by omega) (by omega) (by omega)).mono ?_
  rintro _ w1 ⟨rfl, hw1⟩
  obtain rfl := hw1.symm
  go_wp2_with fail
  refine (szF_yes p q e _ _ (by omega) (by omega) (by omega)).mono ?_
  rintro _ w1 ⟨rfl, hw1⟩
  obtain rfl := hw1.symm
  go_wp2_with fail
  refine (szF_yes r s t _ _ (by omega) (by omega) (by omega)).mono ?_
  rintro _ w1 ⟨rfl, hw1⟩
  obtain rfl := hw1.symm
  go_wp2_with fail
  go_ret
  exact ⟨rfl, hb0⟩
set_option maxHeartbeats 1000000 in
theorem szJ_no {a b p r : Option Addr} {n m q s c d e t : Nat} {f : Int} {w : World} (hn : n ≤ maxLen) (hm : m ≤ maxLen) (hq : q ≤ maxLen) (hs : s ≤ maxLen) (h : 1048576 < n + m + q + s) :
    Calls Try.prog 17 #[.agg #[.slice a n c, .slice b m d, .slice p q e, .slice r s t, .int .i64 f], .int .i64 1048576] w fun e w' => e = .returned (.int .i64 (-1)) ∧ Below w.heap.size w w' := by
  have hb0 := below_new w (.cells #[.slice a n c, .slice b m d, .slice p q e, .slice r s t, .int .i64 f] 35)
  by_cases h1 : 1048576 < n
  · go_enter Try.func17, Try.ntmps17
    go_wp2_with fail
    refine (szI_no a n c _ _ (by omega) (by omega) hn (by omega)).mono ?_
    rintro _ w1 ⟨rfl, hw1⟩
    obtain rfl := hw1.symm
    go_wp2_with fail
    go_ret
    exact ⟨rfl, hb0⟩
  · have z1 : ¬ (1048576 : Int) - (n : Int) < 0 := by omega
    by_cases h2 : 1048576 < n + m
    · go_enter Try.func17, Try.ntmps17
      go_wp2_with fail
      refine (szI_yes a n c _ _ (by omega) (by omega) (by omega)).mono ?_
      rintro _ w1 ⟨rfl, hw1⟩
      obtain rfl := hw1.symm
      go_wp2_with fail
      refine (szI_no b m d _ _ (by omega) (by omega) hm (by omega)).mono ?_
      rintro _ w1 ⟨rfl, hw1⟩
      obtain rfl := hw1.symm
      go_wp2_with fail
      go_ret
      exact ⟨rfl, hb0⟩
    · have z2 : ¬ (1048576 : Int) - (n : Int) - (m : Int) < 0 := by omega
      by_cases h3 : 1048576 < n + m + q
      · go_enter Try.func17, Try.ntmps17
        go_wp2_with fail
        refine (szI_yes a n c _ _ (by omega) (by omega) (by omega)).mono ?_
        rintro _ w1 ⟨rfl, hw1⟩
        obtain rfl := hw1.symm
        go_wp2_with fail
        refine (szI_yes b m d _ _ (by omega) (by omega) (by omega)).mono ?_
        rintro _ w1 ⟨rfl, hw1⟩
        obtain rfl := hw1.symm
        go_wp2_with fail
        refine (szF_no p q e _ _ (by omega) (by omega) hq (by omega)).mono ?_
        rintro _ w1 ⟨rfl, hw1⟩
        obtain rfl := hw1.symm
        go_wp2_with fail
        go_ret
        exact ⟨rfl, hb0⟩
      · have z3 : ¬ (1048576 : Int) - (n : Int) - (m : Int) - (q : Int) < 0 := by omega
        go_enter Try.func17, Try.ntmps17
        go_wp2_with fail
        refine (szI_yes a n c _ _ (by omega) (by omega) (by omega)).mono ?_
        rintro _ w1 ⟨rfl, hw1⟩
        obtain rfl := hw1.symm
        go_wp2_with fail
        refine (szI_yes b m d _ _ (by omega) (by omega) (by omega)).mono ?_
        rintro _ w1 ⟨rfl, hw1⟩
        obtain rfl := hw1.symm
        go_wp2_with fail
        refine (szF_yes p q e _ _ (by omega) (by omega) (by omega)).mono ?_
        rintro _ w1 ⟨rfl, hw1⟩
        obtain rfl := hw1.symm
        go_wp2_with fail
        refine (szF_no r s t _ _ (by omega) (by omega) hs (by omega)).mono ?_
        rintro _ w1 ⟨rfl, hw1⟩
        obtain rfl := hw1.symm
        go_wp2_with fail
        go_ret
        exact ⟨rfl, hb0⟩
theorem eqI_bel16 {a b : Option Addr} {c d n : Nat} {xs : List Int} {w : World} (hn : xs.length = n) (hl : n ≤ 1048576) (h1 : ARow w a xs) (h2 : ARow w b xs) :
    Calls Try.prog 13 #[.slice a n c, .slice b n d] w fun e w' => e = .returned (.bool true) ∧ Below w.heap.size w w' :=
  (eqI_any hn hl h1 h2).mono fun _ _ ⟨he, m, hw⟩ => ⟨he, hw ▸ below_drewN (Below.refl _ _) m⟩
set_option maxHeartbeats 2000000 in
theorem eqJ_any {v v' : Value} {x : Jb.J} {w : World} (hl : x.xs.length ≤ 1048576 ∧ x.ws.length ≤ 1048576 ∧ x.L.length ≤ 1048576 ∧ x.M.length ≤ 1048576) (h1 : JIn w v x) (h2 : JIn w v' x) :
    Calls Try.prog 12 #[v, v'] w fun e w' => e = .returned (.bool true) ∧ Below w.heap.size w w' := by
  obtain ⟨a, b, p, r, c, d, e, t, rfl, _, _, ra, rb, rp, rr⟩ := h1.ex
  obtain ⟨a', b', p', r', c', d', e', t', rfl, _, _, ra', rb', rp', rr'⟩ := h2.ex
  obtain ⟨l1, l2, l3, l4⟩ := hl
  have hB0 : Below w.heap.size w ((w.alloc (.cells #[.slice a x.xs.length c, .slice b x.ws.length d, .slice p x.L.length e, .slice r x.M.length t, .int .i64 x.f] 25)).alloc (.cells #[.slice a' x.xs.length c', .slice b' x.ws.length d', .slice p' x.L.length e', .slice r' x.M.length t', .int .i64 x.f] 25)) := ((Below.refl _ w).alloc (Nat.le_refl _) _).alloc (by simp) _
  have J1 := (JBox.new w (.slice a x.xs.length c) (.slice b x.ws.length d) (.slice p x.L.length e) (.slice r x.M.length t) (.int .i64 x.f) 25).below (below_new _ (.cells #[.slice a' x.xs.length c', .slice b' x.ws.length d', .slice p' x.L.length e', .slice r' x.M.length t', .int .i64 x.f] 25))
  have J2 := JBox.new (w.alloc (.cells #[.slice a x.xs.length c, .slice b x.ws.length d, .slice p x.L.length e, .slice r x.M.length t, .int .i64 x.f] 25)) (.slice a' x.xs.length c') (.slice b' x.ws.length d') (.slice p' x.L.length e') (.slice r' x.M.length t') (.int .i64 x.f) 25
  rw [World.size_alloc] at J2
  have HJ1 := hide J1
  have HJ2 := hide J2
  have HB0 := hide hB0
  have HA := hide fun (W : World) (hb : Below w.heap.size w W) => eqI_bel16 (c := c) (d := c') (rfl : x.xs.length = _) l1 (ra.below hb) (ra'.below hb)
  have HBb := hide fun (W : World) (hb : Below w.heap.size w W) => eqI_bel16 (c := d) (d := d') (rfl : x.ws.length = _) l2 (rb.below hb) (rb'.below hb)
  have HP := hide fun (W : World) (hb : Below w.heap.size w W) => eqr_mv (c := e) (d := e') (rfl : x.L.length = _) l3 (rp.below hb) (rp'.below hb)
  have HR := hide fun (W : World) (hb : Below w.heap.size w W) => eqr_mv (c := t) (d := t') (rfl : x.M.length = _) l4 (rr.below hb) (rr'.below hb)
  have hff : (x.f != x.f) = false := by simp
  clear J1 J2 hB0 ra rb rp rr ra' rb' rp' rr' h1 h2
  generalize x.xs.length = n1 at *
  generalize x.ws.length = n2 at *
  generalize x.L.length = n3 at *
  generalize x.M.length = n4 at *
  generalize x.f = f at *
  go_enter Try.func12, Try.ntmps12
  go_wp2_with fail
  refine (HA.out _ HB0.out).mono ?_
  rintro _ w1 ⟨rfl, b1⟩
  have HJ1' := hide (HJ1.out.below b1)
  have HJ2' := hide (HJ2.out.below b1)
  obtain ⟨c0, c1, c2, c3, c4, _⟩ := HJ1'.out
  obtain ⟨d0, d1, d2, d3, d4, _⟩ := HJ2'.out
  have HB1 := hide (HB0.out.trans (b1.mono HB0.out.size))
  clear HA b1 HJ1 HJ2 HB0
  go_wp2_with fail
  refine (HBb.out _ HB1.out).mono ?_
  rintro _ w2 ⟨rfl, b1⟩
  have HJ1 := hide (HJ1'.out.below b1)
  have HJ2 := hide (HJ2'.out.below b1)
  clear c0 c1 c2 c3 c4 d0 d1 d2 d3 d4
  obtain ⟨c0, c1, c2, c3, c4, _⟩ := HJ1.out
  obtain ⟨d0, d1, d2, d3, d4, _⟩ := HJ2.out
  have HB2 := hide (HB1.out.trans (b1.mono HB1.out.size))
  clear HBb b1 HJ1' HJ2' HB1
  go_wp2_with fail
  refine (HP.out _ HB2.out).mono ?_
  rintro _ w3 ⟨rfl, b1⟩
  have HJ1' := hide (HJ1.out.below b1)
  have HJ2' := hide (HJ2.out.below b1)
  clear c0 c1 c2 c3 c4 d0 d1 d2 d3 d4
  obtain ⟨c0, c1, c2, c3, c4, _⟩ := HJ1'.out
  obtain ⟨d0, d1, d2, d3, d4, _⟩ := HJ2'.out
  have HB3 := hide (HB2.out.trans (b1.mono HB2.out.size))
  clear HP b1 HJ1 HJ2 HB2
  go_wp2_with fail
  refine (HR.out _ HB3.out).mono ?_
  rintro _ w4 ⟨rfl, b1⟩
  have HJ1 := hide (HJ1'.out.below b1)
  have HJ2 := hide (HJ2'.out.below b1)
  clear c0 c1 c2 c3 c4 d0 d1 d2 d3 d4
  obtain ⟨c0, c1, c2, c3, c4, _⟩ := HJ1.out
  obtain ⟨d0, d1, d2, d3, d4, _⟩ := HJ2.out
  have HB4 := hide (HB3.out.trans (b1.mono HB3.out.size))
  clear HR b1 HJ1' HJ2' HB3
  go_wp2_with fail
  go_ret
  exact ⟨rfl, HB4.out⟩
end Go.Proofs.Ytnjkdfeajlnojaa
namespace Go.Proofs.Ytnjkdfeajlnojaa
open Go.RowKit

/-- A job's box, as it lies. -/
def JW (w : World) (B : Nat) (T : TypeId) (v0 v1 v2 v3 v4 : Value) : Prop := w.heap[B]? = some (.cells #[v0, v1, v2, v3, v4] T (0, 0))
theorem JW.new (w : World) (T : TypeId) (v0 v1 v2 v3 v4 : Value) : JW (w.alloc (.cells #[v0, v1, v2, v3, v4] T)) w.heap.size T v0 v1 v2 v3 v4 := World.alloc_heap_new w _
theorem JW.lt {w : World} {B : Nat} {T : TypeId} {v0 v1 v2 v3 v4 : Value} (h : JW w B T v0 v1 v2 v3 v4) : B < w.heap.size := (Array.getElem?_eq_some_iff.1 h).1
theorem JW.keep {w w' : World} {B : Nat} {T : TypeId} {v0 v1 v2 v3 v4 : Value} (h : JW w B T v0 v1 v2 v3 v4) (hb : w'.heap[B]? = w.heap[B]?) : JW w' B T v0 v1 v2 v3 v4 := hb.trans h
theorem JW.below {w w' : World} {B : Nat} {T : TypeId} {v0 v1 v2 v3 v4 : Value} (h : JW w B T v0 v1 v2 v3 v4) (hb : Below w.heap.size w w') : JW w' B T v0 v1 v2 v3 v4 := h.keep (hb.block B h.lt)
theorem JW.alloc {w : World} {B : Nat} {T : TypeId} {v0 v1 v2 v3 v4 : Value} (h : JW w B T v0 v1 v2 v3 v4) (o : Obj) : JW (w.alloc o) B T v0 v1 v2 v3 v4 := h.below (below_new w o)
theorem JW.grown {w w' : World} {B : Nat} {T : TypeId} {v0 v1 v2 v3 v4 : Value} {q : Option Nat} (h : JW w B T v0 v1 v2 v3 v4) (hg : w.grownBy w' q) (hq : q ≠ some B) : JW w' B T v0 v1 v2 v3 v4 := h.keep (hg.block B h.lt (fun e => hq e.symm))
theorem JW.other {w : World} {B : Nat} {T : TypeId} {v0 v1 v2 v3 v4 : Value} {p : Addr} (h : JW w B T v0 v1 v2 v3 v4) (hp : p.block ≠ B) (u : Value) : JW (w.setCell p u) B T v0 v1 v2 v3 v4 := h.keep (Below.heap_setCell _ _ _ B (fun e => hp e.symm))
theorem JW.cells {w : World} {B : Nat} {T : TypeId} {v0 v1 v2 v3 v4 : Value} (h : JW w B T v0 v1 v2 v3 v4) : w.cell? ⟨B, 0, none⟩ = some v0 ∧ w.cell? ⟨B, 1, none⟩ = some v1 ∧ w.cell? ⟨B, 2, none⟩ = some v2 ∧ w.cell? ⟨B, 3, none⟩ = some v3 ∧ w.cell? ⟨B, 4, none⟩ = some v4 := by
  simp [World.cell?, show w.heap[B]? = _ from h]
theorem JW.fz {w : World} {B : Nat} {T : TypeId} {v0 v1 v2 v3 v4 : Value} (h : JW w B T v0 v1 v2 v3 v4) (i : Nat) : w.frozen? ⟨B, i, none⟩ = false := by simp [World.frozen?, show w.heap[B]? = _ from h]
theorem JW.set0 {w : World} {B : Nat} {T : TypeId} {v0 v1 v2 v3 v4 : Value} (h : JW w B T v0 v1 v2 v3 v4) (u : Value) : JW (w.setCell ⟨B, 0, none⟩ u) B T u v1 v2 v3 v4 := by
  obtain ⟨hlt, hk⟩ := Array.getElem?_eq_some_iff.1 h
  show (w.heap.modify B _)[B]? = _
  rw [Array.getElem?_eq_getElem (by rw [Array.size_modify]; exact hlt), Array.getElem_modify_self, hk]
  rfl
theorem JW.set1 {w : World} {B : Nat} {T : TypeId} {v0 v1 v2 v3 v4 : Value} (h : JW w B T v0 v1 v2 v3 v4) (u : Value) : JW (w.setCell ⟨B, 1, none⟩ u) B T v0 u v2 v3 v4 := by
  obtain ⟨hlt, hk⟩ := Array.getElem?_eq_some_iff.1 h
  show (w.heap.modify B _)[B]? = _
  rw [Array.getElem?_eq_getElem (by rw [Array.size_modify]; exact hlt), Array.getElem_modify_self, hk]
  rfl
theorem JW.set2 {w : World} {B : Nat} {T : TypeId} {v0 v1 v2 v3 v4 : Value} (h : JW w B T v0 v1 v2 v3 v4) (u : Value) : JW (w.setCell ⟨B, 2, none⟩ u) B T v0 v1 u v3 v4 := by
  obtain ⟨hlt, hk⟩ := Array.getElem?_eq_some_iff.1 h
  show (w.heap.modify B _)[B]? = _
  rw [Array.getElem?_eq_getElem (by rw [Array.size_modify]; exact hlt), Array.getElem_modify_self, hk]
  rfl
theorem JW.set3 {w : World} {B : Nat} {T : TypeId} {v0 v1 v2 v3 v4 : Value} (h : JW w B T v0 v1 v2 v3 v4) (u : Value) : JW (w.setCell ⟨B, 3, none⟩ u) B T v0 v1 v2 u v4 := by
  obtain ⟨hlt, hk⟩ := Array.getElem?_eq_some_iff.1 h
  show (w.heap.modify B _)[B]? = _
  rw [Array.getElem?_eq_getElem (by rw [Array.size_modify]; exact hlt), Array.getElem_modify_self, hk]
  rfl
theorem JW.set4 {w : World} {B : Nat} {T : TypeId} {v0 v1 v2 v3 v4 : Value} (h : JW w B T v0 v1 v2 v3 v4) (u : Value) : JW (w.setCell ⟨B, 4, none⟩ u) B T v0 v1 v2 v3 u := by
  obtain ⟨hlt, hk⟩ := Array.getElem?_eq_some_iff.1 h
  show (w.heap.modify B _)[B]? = _
  rw [Array.getElem?_eq_getElem (by rw [Array.size_modify]; exact hlt), Array.getElem_modify_self, hk]
  rfl
theorem moB_some16 {g0 o n c n' g : Nat} (e : moB (.slice (some ⟨g0, o, none⟩) n c) n' = some g) : g = g0 := by
  unfold moB at e
  split at e
  · cases e
  · simp only [Value.ownBlock, Option.some.injEq] at e; exact e.symm
theorem tI16 (a : Option Addr) (c n : Nat) (xs : List Int) (w : World) (hx : xs.length = n) (hn : n ≤ 1048576) (hr : ARow w a xs) :
    Calls Try.prog 10 #[.slice a n c] w fun e w' => ∃ g, e = .returned (.slice (some ⟨g, 0, none⟩) n n) ∧ Below w.heap.size w w' ∧ w.heap.size ≤ g ∧ g < w'.heap.size ∧ w'.ownsRow w.heap.size 3 1 (.slice (some ⟨g, 0, none⟩) n n) n (ints xs) :=
  (toI_own a c n xs w hx hn hr).mono fun _ _ ⟨h1, h2, h3, h4⟩ => ⟨_, h1, h2, Nat.le_refl _, h3, h4⟩
theorem tF16 (a : Option Addr) (c n : Nat) (L : List (Int × Int)) (w : World) (hx : L.length = n) (hn : n ≤ 1048576) (hr : FRow w a L) :
    Calls Try.prog 48 #[.slice a n c] w fun e w' => ∃ g, e = .returned (.slice (some ⟨g, 0, none⟩) n n) ∧ Below w.heap.size w w' ∧ w.heap.size ≤ g ∧ g < w'.heap.size ∧ MV w' (.slice (some ⟨g, 0, none⟩) n n) n L := by
  subst hx
  exact (toF_row a c L w hn hr).mono fun _ _ ⟨h1, h2, h3, h4, h5⟩ => ⟨_, h1, h2, Nat.le_refl _, h3, rfl, Or.inr ⟨_, 0, _, rfl, h3, h4, fun j hj => by rw [Nat.zero_add]; exact h5 j hj⟩⟩
set_option maxHeartbeats 4000000 in
theorem toJ_any {a b p r : Option Addr} {c d e t : Nat} {x : Jb.J} {w : World} (hl : x.xs.length ≤ 1048576 ∧ x.ws.length ≤ 1048576 ∧ x.L.length ≤ 1048576 ∧ x.M.length ≤ 1048576) (ra : ARow w a x.xs) (rb : ARow w b x.ws) (rp : FRow w p x.L) (rr : FRow w r x.M) :
    Calls Try.prog 19 #[.agg #[.slice a x.xs.length c, .slice b x.ws.length d, .slice p x.L.length e, .slice r x.M.length t, .int .i64 x.f]] w fun e w' => ∃ v, e = .returned v ∧ Below w.heap.size w w' ∧ JR w' w.heap.size w'.heap.size v x := by
  obtain ⟨l1, l2, l3, l4⟩ := hl
  obtain ⟨z, hz⟩ : ∃ z, z = Value.slice none 0 0 := ⟨_, rfl⟩
  go_enter Try.func19, Try.ntmps19
  go_wp2_with fail
  have hB0 : Below w.heap.size w (((w.alloc (.cells #[.slice a x.xs.length c, .slice b x.ws.length d, .slice p x.L.length e, .slice r x.M.length t, .int .i64 x.f] 35)).alloc (.cells #[.slice none 0 0, .slice none 0 0, .slice none 0 0, .slice none 0 0, .int .i64 0] 25)).alloc (.cells #[.slice none 0 0, .slice none 0 0, .slice none 0 0, .slice none 0 0, .int .i64 0] 25)) := (((Below.refl _ w).alloc (Nat.le_refl _) _).alloc (by simp) _).alloc (by simp; omega) _
  have jJ := ((JW.new w 35 (.slice a x.xs.length c) (.slice b x.ws.length d) (.slice p x.L.length e) (.slice r x.M.length t) (.int .i64 x.f)).alloc (.cells #[.slice none 0 0, .slice none 0 0, .slice none 0 0, .slice none 0 0, .int .i64 0] 25)).alloc (.cells #[.slice none 0 0, .slice none 0 0, .slice none 0 0, .slice none 0 0, .int .i64 0] 25)
  have jR := (JW.new (w.alloc (.cells #[.slice a x.xs.length c, .slice b x.ws.length d, .slice p x.L.length e, .slice r x.M.length t, .int .i64 x.f] 35)) 25 (.slice none 0 0) (.slice none 0 0) (.slice none 0 0) (.slice none 0 0) (.int .i64 0)).alloc (.cells #[.slice none 0 0, .slice none 0 0, .slice none 0 0, .slice none 0 0, .int .i64 0] 25)
  have jO := JW.new ((w.alloc (.cells #[.slice a x.xs.length c, .slice b x.ws.length d, .slice p x.L.length e, .slice r x.M.length t, .int .i64 x.f] 35)).alloc (.cells #[.slice none 0 0, .slice none 0 0, .slice none 0 0, .slice none 0 0, .int .i64 0] 25)) 25 (.slice none 0 0) (.slice none 0 0) (.slice none 0 0) (.slice none 0 0) (.int .i64 0)
  simp only [World.size_alloc] at jR jO
  have hs0 : (((w.alloc (.cells #[.slice a x.xs.length c, .slice b x.ws.length d, .slice p x.L.length e, .slice r x.M.length t, .int .i64 x.f] 35)).alloc (.cells #[.slice none 0 0, .slice none 0 0, .slice none 0 0, .slice none 0 0, .int .i64 0] 25)).alloc (.cells #[.slice none 0 0, .slice none 0 0, .slice none 0 0, .slice none 0 0, .int .i64 0] 25)).heap.size = w.heap.size + 1 + 1 + 1 := by simp
  generalize ((w.alloc (.cells #[.slice a x.xs.length c, .slice b x.ws.length d, .slice p x.L.length e, .slice r x.M.length t, .int .i64 x.f] 35)).alloc (.cells #[.slice none 0 0, .slice none 0 0, .slice none 0 0, .slice none 0 0, .int .i64 0] 25)).alloc (.cells #[.slice none 0 0, .slice none 0 0, .slice none 0 0, .slice none 0 0, .int .i64 0] 25) = W0 at *
  refine (tI16 a c _ x.xs _ rfl l1 (ra.below hB0)).mono ?_
  rintro _ w1 ⟨g1, rfl, b1, y1, z1, o1⟩
  have hB1 := hB0.trans (b1.mono hB0.size)
  have jJ1 := jJ.below b1
  have jR1 := jR.below b1
  have jO1 := jO.below b1
  obtain ⟨c0, c1, c2, c3, c4⟩ := jJ1.cells
  obtain ⟨d0, d1, d2, d3, d4⟩ := jO1.cells
  obtain ⟨e0, e1, e2, e3, e4⟩ := jR1.cells
  have f1 := jO1.fz
  have f2 := jR1.fz
  go_wp2_with fail
  clear c0 c1 c2 c3 c4 d0 d1 d2 d3 d4 e0 e1 e2 e3 e4 f1 f2
  have hB1' := hB1.setCell (p := ⟨w.heap.size + 1 + 1, 0, none⟩) (show w.heap.size ≤ w.heap.size + 1 + 1 by omega) (.slice (some ⟨g1, 0, none⟩) x.xs.length x.xs.length)
  have jJ1' := jJ1.other (p := ⟨w.heap.size + 1 + 1, 0, none⟩) (show w.heap.size + 1 + 1 ≠ w.heap.size by omega) (.slice (some ⟨g1, 0, none⟩) x.xs.length x.xs.length)
  have jR1' := jR1.other (p := ⟨w.heap.size + 1 + 1, 0, none⟩) (show w.heap.size + 1 + 1 ≠ w.heap.size + 1 by omega) (.slice (some ⟨g1, 0, none⟩) x.xs.length x.xs.length)
  have jO1' := jO1.set0 (.slice (some ⟨g1, 0, none⟩) x.xs.length x.xs.length)
  have k1 : ∀ g, g ≠ w.heap.size + 1 + 1 → (w1.setCell ⟨w.heap.size + 1 + 1, 0, none⟩ (.slice (some ⟨g1, 0, none⟩) x.xs.length x.xs.length)).heap[g]? = w1.heap[g]? := fun g hg => Below.heap_setCell _ _ _ g hg
  have u1 : (w1.setCell ⟨w.heap.size + 1 + 1, 0, none⟩ (.slice (some ⟨g1, 0, none⟩) x.xs.length x.xs.length)).heap.size = w1.heap.size := by simp
  generalize w1.setCell ⟨w.heap.size + 1 + 1, 0, none⟩ (.slice (some ⟨g1, 0, none⟩) x.xs.length x.xs.length) = V1 at *
  refine (tI16 b d _ x.ws _ rfl l2 (rb.below hB1')).mono ?_
  rintro _ w2 ⟨g2, rfl, b2, y2, z2, o2⟩
  have hB2 := hB1'.trans (b2.mono hB1'.size)
  have jJ2 := jJ1'.below b2
  have jR2 := jR1'.below b2
  have jO2 := jO1'.below b2
  obtain ⟨c0, c1, c2, c3, c4⟩ := jJ2.cells
  obtain ⟨d0, d1, d2, d3, d4⟩ := jO2.cells
  obtain ⟨e0, e1, e2, e3, e4⟩ := jR2.cells
  have f1 := jO2.fz
  have f2 := jR2.fz
  go_wp2_with fail
  clear c0 c1 c2 c3 c4 d0 d1 d2 d3 d4 e0 e1 e2 e3 e4 f1 f2
  have hB2' := hB2.setCell (p := ⟨w.heap.size + 1 + 1, 1, none⟩) (show w.heap.size ≤ w.heap.size + 1 + 1 by omega) (.slice (some ⟨g2, 0, none⟩) x.ws.length x.ws.length)
  have jJ2' := jJ2.other (p := ⟨w.heap.size + 1 + 1, 1, none⟩) (show w.heap.size + 1 + 1 ≠ w.heap.size by omega) (.slice (some ⟨g2, 0, none⟩) x.ws.length x.ws.length)
  have jR2' := jR2.other (p := ⟨w.heap.size + 1 + 1, 1, none⟩) (show w.heap.size + 1 + 1 ≠ w.heap.size + 1 by omega) (.slice (some ⟨g2, 0, none⟩) x.ws.length x.ws.length)
  have jO2' := jO2.set1 (.slice (some ⟨g2, 0, none⟩) x.ws.length x.ws.length)
  have k2 : ∀ g, g ≠ w.heap.size + 1 + 1 → (w2.setCell ⟨w.heap.size + 1 + 1, 1, none⟩ (.slice (some ⟨g2, 0, none⟩) x.ws.length x.ws.length)).heap[g]? = w2.heap[g]? := fun g hg => Below.heap_setCell _ _ _ g hg
  have u2 : (w2.setCell ⟨w.heap.size + 1 + 1, 1, none⟩ (.slice (some ⟨g2, 0, none⟩) x.ws.length x.ws.length)).heap.size = w2.heap.size := by simp
  generalize w2.setCell ⟨w.heap.size + 1 + 1, 1, none⟩ (.slice (some ⟨g2, 0, none⟩) x.ws.length x.ws.length) = V2 at *
  refine (tF16 p e _ x.L _ rfl l3 (rp.below hB2')).mono ?_
  rintro _ w3 ⟨g3, rfl, b3, y3, z3, o3⟩
  have hB3 := hB2'.trans (b3.mono hB2'.size)
  have jJ3 := jJ2'.below b3
  have jR3 := jR2'.below b3
  have jO3 := jO2'.below b3
  obtain ⟨c0, c1, c2, c3, c4⟩ := jJ3.cells
  obtain ⟨d0, d1, d2, d3, d4⟩ := jO3.cells
  obtain ⟨e0, e1, e2, e3, e4⟩ := jR3.cells
  have f1 := jO3.fz
  have f2 := jR3.fz
  go_wp2_with fail
  clear c0 c1 c2 c3 c4 d0 d1 d2 d3 d4 e0 e1 e2 e3 e4 f1 f2
  have hB3' := hB3.setCell (p := ⟨w.heap.size + 1 + 1, 2, none⟩) (show w.heap.size ≤ w.heap.size + 1 + 1 by omega) (.slice (some ⟨g3, 0, none⟩) x.L.length x.L.length)
  have jJ3' := jJ3.other (p := ⟨w.heap.size + 1 + 1, 2, none⟩) (show w.heap.size + 1 + 1 ≠ w.heap.size by omega) (.slice (some ⟨g3, 0, none⟩) x.L.length x.L.length)
  have jR3' := jR3.other (p := ⟨w.heap.size + 1 + 1, 2, none⟩) (show w.heap.size + 1 + 1 ≠ w.heap.size + 1 by omega) (.slice (some ⟨g3, 0, none⟩) x.L.length x.L.length)
  have jO3' := jO3.set2 (.slice (some ⟨g3, 0, none⟩) x.L.length x.L.length)
  have k3 : ∀ g, g ≠ w.heap.size + 1 + 1 → (w3.setCell ⟨w.heap.size + 1 + 1, 2, none⟩ (.slice (some ⟨g3, 0, none⟩) x.L.length x.L.length)).heap[g]? = w3.heap[g]? := fun g hg => Below.heap_setCell _ _ _ g hg
  have u3 : (w3.setCell ⟨w.heap.size + 1 + 1, 2, none⟩ (.slice (some ⟨g3, 0, none⟩) x.L.length x.L.length)).heap.size = w3.heap.size := by simp
  generalize w3.setCell ⟨w.heap.size + 1 + 1, 2, none⟩ (.slice (some ⟨g3, 0, none⟩) x.L.length x.L.length) = V3 at *
  refine (tF16 r t _ x.M _ rfl l4 (rr.below hB3')).mono ?_
  rintro _ w4 ⟨g4, rfl, b4, y4, z4, o4⟩
  have hB4 := hB3'.trans (b4.mono hB3'.size)
  have jJ4 := jJ3'.below b4
  have jR4 := jR3'.below b4
  have jO4 := jO3'.below b4
  obtain ⟨c0, c1, c2, c3, c4⟩ := jJ4.cells
  obtain ⟨d0, d1, d2, d3, d4⟩ := jO4.cells
  obtain ⟨e0, e1, e2, e3, e4⟩ := jR4.cells
  have f1 := jO4.fz
  have f2 := jR4.fz
  go_wp2_with fail
  clear c0 c1 c2 c3 c4 d0 d1 d2 d3 d4 e0 e1 e2 e3 e4 f1 f2
  have jRf := (((((((jR4.other (p := ⟨w.heap.size + 1 + 1, 3, none⟩) (show w.heap.size + 1 + 1 ≠ w.heap.size + 1 by omega) (.slice (some ⟨g4, 0, none⟩) x.M.length x.M.length)).other (p := ⟨w.heap.size + 1 + 1, 4, none⟩) (show w.heap.size + 1 + 1 ≠ w.heap.size + 1 by omega) (.int .i64 x.f)).set0 (.slice (some ⟨g1, 0, none⟩) x.xs.length x.xs.length)).set1 (.slice (some ⟨g2, 0, none⟩) x.ws.length x.ws.length)).set2 (.slice (some ⟨g3, 0, none⟩) x.L.length x.L.length)).set3 (.slice (some ⟨g4, 0, none⟩) x.M.length x.M.length)).set4 (.int .i64 x.f))
  have hBf := (((((((hB4.setCell (p := ⟨w.heap.size + 1 + 1, 3, none⟩) (show w.heap.size ≤ w.heap.size + 1 + 1 by omega) (.slice (some ⟨g4, 0, none⟩) x.M.length x.M.length)).setCell (p := ⟨w.heap.size + 1 + 1, 4, none⟩) (show w.heap.size ≤ w.heap.size + 1 + 1 by omega) (.int .i64 x.f)).setCell (p := ⟨w.heap.size + 1, 0, none⟩) (show w.heap.size ≤ w.heap.size + 1 by omega) (.slice (some ⟨g1, 0, none⟩) x.xs.length x.xs.length)).setCell (p := ⟨w.heap.size + 1, 1, none⟩) (show w.heap.size ≤ w.heap.size + 1 by omega) (.slice (some ⟨g2, 0, none⟩) x.ws.length x.ws.length)).setCell (p := ⟨w.heap.size + 1, 2, none⟩) (show w.heap.size ≤ w.heap.size + 1 by omega) (.slice (some ⟨g3, 0, none⟩) x.L.length x.L.length)).setCell (p := ⟨w.heap.size + 1, 3, none⟩) (show w.heap.size ≤ w.heap.size + 1 by omega) (.slice (some ⟨g4, 0, none⟩) x.M.length x.M.length)).setCell (p := ⟨w.heap.size + 1, 4, none⟩) (show w.heap.size ≤ w.heap.size + 1 by omega) (.int .i64 x.f))
  have kf : ∀ g, g ≠ w.heap.size + 1 → g ≠ w.heap.size + 1 + 1 → (((((((w4.setCell ⟨w.heap.size + 1 + 1, 3, none⟩ (.slice (some ⟨g4, 0, none⟩) x.M.length x.M.length)).setCell ⟨w.heap.size + 1 + 1, 4, none⟩ (.int .i64 x.f)).setCell ⟨w.heap.size + 1, 0, none⟩ (.slice (some ⟨g1, 0, none⟩) x.xs.length x.xs.length)).setCell ⟨w.heap.size + 1, 1, none⟩ (.slice (some ⟨g2, 0, none⟩) x.ws.length x.ws.length)).setCell ⟨w.heap.size + 1, 2, none⟩ (.slice (some ⟨g3, 0, none⟩) x.L.length x.L.length)).setCell ⟨w.heap.size + 1, 3, none⟩ (.slice (some ⟨g4, 0, none⟩) x.M.length x.M.length)).setCell ⟨w.heap.size + 1, 4, none⟩ (.int .i64 x.f)).heap[g]? = w4.heap[g]? := fun g h1 h2 => (((((((Below.heap_setCell _ _ _ g (by show g ≠ w.heap.size + 1; omega)).trans (Below.heap_setCell _ _ _ g (by show g ≠ w.heap.size + 1; omega))).trans (Below.heap_setCell _ _ _ g (by show g ≠ w.heap.size + 1; omega))).trans (Below.heap_setCell _ _ _ g (by show g ≠ w.heap.size + 1; omega))).trans (Below.heap_setCell _ _ _ g (by show g ≠ w.heap.size + 1; omega))).trans (Below.heap_setCell _ _ _ g (by show g ≠ w.heap.size + 1 + 1; omega))).trans (Below.heap_setCell _ _ _ g (by show g ≠ w.heap.size + 1 + 1; omega)))
  have uf : (((((((w4.setCell ⟨w.heap.size + 1 + 1, 3, none⟩ (.slice (some ⟨g4, 0, none⟩) x.M.length x.M.length)).setCell ⟨w.heap.size + 1 + 1, 4, none⟩ (.int .i64 x.f)).setCell ⟨w.heap.size + 1, 0, none⟩ (.slice (some ⟨g1, 0, none⟩) x.xs.length x.xs.length)).setCell ⟨w.heap.size + 1, 1, none⟩ (.slice (some ⟨g2, 0, none⟩) x.ws.length x.ws.length)).setCell ⟨w.heap.size + 1, 2, none⟩ (.slice (some ⟨g3, 0, none⟩) x.L.length x.L.length)).setCell ⟨w.heap.size + 1, 3, none⟩ (.slice (some ⟨g4, 0, none⟩) x.M.length x.M.length)).setCell ⟨w.heap.size + 1, 4, none⟩ (.int .i64 x.f)).heap.size = w4.heap.size := by simp
  generalize (((((((w4.setCell ⟨w.heap.size + 1 + 1, 3, none⟩ (.slice (some ⟨g4, 0, none⟩) x.M.length x.M.length)).setCell ⟨w.heap.size + 1 + 1, 4, none⟩ (.int .i64 x.f)).setCell ⟨w.heap.size + 1, 0, none⟩ (.slice (some ⟨g1, 0, none⟩) x.xs.length x.xs.length)).setCell ⟨w.heap.size + 1, 1, none⟩ (.slice (some ⟨g2, 0, none⟩) x.ws.length x.ws.length)).setCell ⟨w.heap.size + 1, 2, none⟩ (.slice (some ⟨g3, 0, none⟩) x.L.length x.L.length)).setCell ⟨w.heap.size + 1, 3, none⟩ (.slice (some ⟨g4, 0, none⟩) x.M.length x.M.length)).setCell ⟨w.heap.size + 1, 4, none⟩ (.int .i64 x.f)) = Wf at *
  obtain ⟨e0, e1, e2, e3, e4⟩ := jRf.cells
  have m1 := b1.size
  have m2 := b2.size
  have m3 := b3.size
  have m4 := b4.size
  have K1 : ∀ g, g ≠ w.heap.size + 1 → g ≠ w.heap.size + 1 + 1 → g < w1.heap.size → w2.heap[g]? = w1.heap[g]? := fun g _ h2 h => (b2.block g (by omega)).trans (k1 g h2)
  have K2 : ∀ g, g ≠ w.heap.size + 1 → g ≠ w.heap.size + 1 + 1 → g < w2.heap.size → w3.heap[g]? = w2.heap[g]? := fun g _ h2 h => (b3.block g (by omega)).trans (k2 g h2)
  have K3 : ∀ g, g ≠ w.heap.size + 1 → g ≠ w.heap.size + 1 + 1 → g < w3.heap.size → Wf.heap[g]? = w3.heap[g]? := fun g h1 h2 h => (kf g h1 h2).trans ((b4.block g (by omega)).trans (k3 g h2))
  refine bodyPost_ret (v := .agg #[.slice (some ⟨g1, 0, none⟩) x.xs.length x.xs.length, .slice (some ⟨g2, 0, none⟩) x.ws.length x.ws.length, .slice (some ⟨g3, 0, none⟩) x.L.length x.L.length, .slice (some ⟨g4, 0, none⟩) x.M.length x.M.length, .int .i64 x.f]) (by simp [results, Try.results19, go_sem, e0, e1, e2, e3, e4]) rfl ⟨_, rfl, hBf, ?_⟩
  refine ⟨_, _, _, _, rfl, ?_, ?_, ?_, ?_, ?_, Nat.le_refl _, ?_⟩
  · exact owns_low (own_keep2 o1 fun g e h => by
      have e : g1 = g := by simpa [Value.ownBlock] using e
      subst e
      exact (K3 _ (by omega) (by omega) (by omega)).trans ((K2 _ (by omega) (by omega) (by omega)).trans (K1 _ (by omega) (by omega) h))) (by omega)
  · exact owns_low (own_keep2 o2 fun g e h => by
      have e : g2 = g := by simpa [Value.ownBlock] using e
      subst e
      exact (K3 _ (by omega) (by omega) (by omega)).trans (K2 _ (by omega) (by omega) h)) (by omega)
  · exact o3.keep (by omega) fun g e => by have := moB_some16 e; exact K3 _ (by omega) (by omega) (by omega)
  · exact o4.keep (by omega) fun g e => by have := moB_some16 e; exact kf _ (by omega) (by omega)
  · intro g h
    rcases h with h | h | h | h
    · simp only [Value.ownBlock, Option.some.injEq] at h; omega
    · simp only [Value.ownBlock, Option.some.injEq] at h; omega
    · have := moB_some16 h; omega
    · have := moB_some16 h; omega
  · refine ⟨fun g e e' => ?_, fun g e e' => ?_, fun g e e' => ?_, fun g e e' => ?_, fun g e e' => ?_, fun g e e' => ?_⟩
    · simp only [Value.ownBlock, Option.some.injEq] at e e'; omega
    · simp only [Value.ownBlock, Option.some.injEq] at e; have := moB_some16 e'; omega
    · simp only [Value.ownBlock, Option.some.injEq] at e; have := moB_some16 e'; omega
    · simp only [Value.ownBlock, Option.some.injEq] at e; have := moB_some16 e'; omega
    · simp only [Value.ownBlock, Option.some.injEq] at e; have := moB_some16 e'; omega
    · have := moB_some16 e; have := moB_some16 e'; omega
end Go.Proofs.Ytnjkdfeajlnojaa
namespace Go.Proofs.Ytnjkdfeajlnojaa
open Go.RowKit

theorem Rng.step16 {lo hi : Nat} {w w1 w2 : World} {q : Option Nat} (h : Rng lo hi w w1) (hg : w1.grownBy w2 q) (hq : ∀ g, q = some g → lo ≤ g ∧ g < hi) : Rng lo hi w w2 :=
  ⟨hg.os.trans h.1, hg.tape.trans h.2.1, hg.output.trans h.2.2.1, Nat.le_trans h.2.2.2.1 hg.size, fun b hb ho => (hg.block b (Nat.lt_of_lt_of_le hb h.2.2.2.1) (fun e => by have := hq b e.symm; omega)).trans (h.2.2.2.2 b hb ho)⟩
theorem Rng.of16 {lo hi : Nat} {w w1 : World} (h : Below w.heap.size w w1) : Rng lo hi w w1 := ⟨h.os, h.tape, h.output, h.size, fun b hb _ => h.block b hb⟩
theorem own_dis16 {w w' : World} {base n : Nat} {v : Value} {xs : List Value} {q : Option Nat} (h : w.ownsRow base 3 1 v n xs) (hg : w.grownBy w' q) (hd : Dis q v.ownBlock) : w'.ownsRow base 3 1 v n xs :=
  own_keep2 h fun g e hl => hg.block g hl fun e' => hd g e'.symm e
theorem mv_dis16 {w w' : World} {n : Nat} {v : Value} {L : List (Int × Int)} {q : Option Nat} (h : MV w v n L) (hg : w.grownBy w' q) (hd : Dis q (moB v n)) : MV w' v n L :=
  h.keep hg.size fun g e => by
    obtain ⟨_, h2⟩ := h
    rcases h2 with ⟨h0, a, c, rfl⟩ | ⟨g0, o, cap, rfl, hl, _⟩
    · unfold moB at e; rw [if_pos h0] at e; cases e
    · have := moB_some16 e; subst this; exact hg.block g hl fun e' => hd g e'.symm e
theorem hv_dis16 {w w' : World} {n : Nat} {v : Value} {k : Int} {q : Option Nat} (h : HV w v n k) (hg : w.grownBy w' q) (hd : Dis q v.ownBlock) : HV w' v n k := by
  rcases h with h | ⟨g, cap, rfl, hl, hc⟩
  · exact Or.inl h
  · have hk := hg.block g hl fun e => hd g e.symm rfl
    exact Or.inr ⟨g, cap, rfl, Nat.lt_of_lt_of_le hl hg.size, fun j hj => (World.cell?_of_block (a := ⟨g, j, none⟩) hk).trans (hc j hj)⟩
theorem mh_dis16 {w w' : World} {n : Nat} {v : Value} {k : Int} {q : Option Nat} (h : MHo w v n k) (hg : w.grownBy w' q) (hd : Dis q (moB v n)) : MHo w' v n k := by
  rcases h with h | ⟨g, o, cap, rfl, hl, hc⟩
  · exact Or.inl h
  · by_cases h0 : n = 0
    · exact Or.inl ⟨h0, _, cap, by rw [h0]⟩
    · have hk := hg.block g hl fun e => hd g e.symm (by unfold moB; rw [if_neg h0]; rfl)
      exact Or.inr ⟨g, o, cap, rfl, Nat.lt_of_lt_of_le hl hg.size, fun j hj => (World.cell?_of_block (a := ⟨g, o + j, none⟩) hk).trans (hc j hj)⟩
set_option maxHeartbeats 4000000 in
theorem markJ_any {lo hi : Nat} {v : Value} {x : Jb.J} {k : Int} {w : World} (hl : x.xs.length ≤ 1048576 ∧ x.ws.length ≤ 1048576 ∧ x.L.length ≤ 1048576 ∧ x.M.length ≤ 1048576) (k0 : 0 < k) (k1 : k ≤ 1000) (h : JR w lo hi v x) :
    Calls Try.prog 15 #[v, .int .i64 k] w fun e w' => e = .returned (.int .i64 (k + (wgt x : Nat))) ∧ HJ w' v x k ∧ Rng lo hi w w' := by
  obtain ⟨l1, l2, l3, l4⟩ := hl
  obtain ⟨a, b, l, m, rfl, h2, h3, h4, h5, h6, h7, d1, d2, d3, d4, d5, d6⟩ := h.ex
  have hj0 := JW.new w 25 a b l m (.int .i64 x.f)
  have hb0 := below_new w (.cells #[a, b, l, m, .int .i64 x.f] 25)
  have hs : (w.alloc (.cells #[a, b, l, m, .int .i64 x.f] 25)).heap.size = w.heap.size + 1 := World.size_alloc _ _
  have hr0 : Rng lo hi w (w.alloc (.cells #[a, b, l, m, .int .i64 x.f] 25)) := Rng.of16 hb0
  have h2' := own_below h2 hb0
  have h3' := own_below h3 hb0
  have h4' := h4.below hb0
  have h5' := h5.below hb0
  obtain ⟨c0, c1, c2, c3, c4⟩ := hj0.cells
  have Hb : ∀ g, g < hi → g ≠ w.heap.size := fun g hg => by omega
  have hqa : ∀ g, a.ownBlock = some g → lo ≤ g ∧ g < hi := fun g e => h6 g (Or.inl e)
  have hqb : ∀ g, b.ownBlock = some g → lo ≤ g ∧ g < hi := fun g e => h6 g (Or.inr (Or.inl e))
  have hql : ∀ g, moB l x.L.length = some g → lo ≤ g ∧ g < hi := fun g e => h6 g (Or.inr (Or.inr (Or.inl e)))
  have hqm : ∀ g, moB m x.M.length = some g → lo ≤ g ∧ g < hi := fun g e => h6 g (Or.inr (Or.inr (Or.inr e)))
  have hwg : (wgt x : Nat) = x.xs.length + x.ws.length + x.L.length * 2 + x.M.length * 2 := rfl
  generalize wgt x = W at *
  have HW := hide hwg
  clear h h2 h3 h4 h5 h6 hb0 hs hwg
  go_enter Try.func15, Try.ntmps15
  go_wp2_with fail
  refine (markV_any (rfl : x.xs.length = _) l1 (by omega) (by omega) h2').mono ?_
  rintro _ w1 ⟨rfl, s1, g1⟩
  have r1 := hr0.step16 g1 hqa
  have j1 := hj0.grown g1 (fun e => by have := hqa _ e; exact Hb _ this.2 rfl)
  have t3 := own_dis16 h3' g1 d1
  have t4 := mv_dis16 h4' g1 d2
  have t5 := mv_dis16 h5' g1 d3
  clear c0 c1 c2 c3 c4 hj0 h2' h3' h4' h5' hr0 g1
  obtain ⟨c0, c1, c2, c3, c4⟩ := j1.cells
  go_wp2_with fail
  refine (markV_any (rfl : x.ws.length = _) l2 (by omega) (by omega) t3).mono ?_
  rintro _ w2 ⟨rfl, s2, g2⟩
  have r2 := r1.step16 g2 hqb
  have j2 := j1.grown g2 (fun e => by have := hqb _ e; exact Hb _ this.2 rfl)
  have u4 := mv_dis16 t4 g2 d4
  have u5 := mv_dis16 t5 g2 d5
  have s1' := hv_dis16 s1 g2 d1.symm
  clear c0 c1 c2 c3 c4 j1 t3 t4 t5 r1 s1 g2
  obtain ⟨c0, c1, c2, c3, c4⟩ := j2.cells
  go_wp2_with fail
  refine (mark_mv l3 (by omega) (by omega) u4).mono ?_
  rintro _ w3 ⟨rfl, s3, g3⟩
  have r3 := r2.step16 g3 hql
  have j3 := j2.grown g3 (fun e => by have := hql _ e; exact Hb _ this.2 rfl)
  have v5 := mv_dis16 u5 g3 d6
  have s1'' := hv_dis16 s1' g3 d2.symm
  have s2' := hv_dis16 s2 g3 d4.symm
  clear c0 c1 c2 c3 c4 j2 u4 u5 r2 s1' s2 g3
  obtain ⟨c0, c1, c2, c3, c4⟩ := j3.cells
  go_wp2_with fail
  refine (mark_mv l4 (by omega) (by omega) v5).mono ?_
  rintro _ w4 ⟨rfl, s4, g4⟩
  have r4 := r3.step16 g4 hqm
  have z1 := hv_dis16 s1'' g4 d3.symm
  have z2 := hv_dis16 s2' g4 d5.symm
  have z3 := mh_dis16 s3 g4 d6.symm
  clear c0 c1 c2 c3 c4 j3 v5 r3 s1'' s2' s3 g4
  go_wp2_with fail
  go_ret
  exact ⟨by rw [HW.out]; go_num, ⟨a, b, l, m, rfl, z1, z2, z3, s4⟩, r4⟩
set_option maxHeartbeats 4000000 in
theorem heldJ_any {v : Value} {x : Jb.J} {k : Int} {w : World} (hl : x.xs.length ≤ 1048576 ∧ x.ws.length ≤ 1048576 ∧ x.L.length ≤ 1048576 ∧ x.M.length ≤ 1048576) (k0 : 0 < k) (k1 : k ≤ 1000) (h : HJ w v x k) :
    Calls Try.prog 16 #[v, .int .i64 k] w fun e w' => e = .returned (.int .i64 (k + (wgt x : Nat))) ∧ Below w.heap.size w w' := by
  obtain ⟨l1, l2, l3, l4⟩ := hl
  obtain ⟨a, b, l, m, rfl, h2, h3, h4, h5⟩ := h.ex
  have hj0 := JW.new w 25 a b l m (.int .i64 x.f)
  have hb0 := below_new w (.cells #[a, b, l, m, .int .i64 x.f] 25)
  have h2' := h2.below hb0
  have h3' := h3.below hb0
  have h4' := h4.below hb0
  have h5' := h5.below hb0
  obtain ⟨c0, c1, c2, c3, c4⟩ := hj0.cells
  have hwg : (wgt x : Nat) = x.xs.length + x.ws.length + x.L.length * 2 + x.M.length * 2 := rfl
  generalize wgt x = W at *
  have HW := hide hwg
  have z1 : ¬ k + (x.xs.length : Int) < 0 := by omega
  have z2 : ¬ k + (x.xs.length : Int) + (x.ws.length : Int) < 0 := by omega
  have z3 : ¬ k + (x.xs.length : Int) + (x.ws.length : Int) + (x.L.length : Int) * 2 < 0 := by omega
  have z4 : ¬ k + (x.xs.length : Int) + (x.ws.length : Int) + (x.L.length : Int) * 2 + (x.M.length : Int) * 2 < 0 := by omega
  clear h h2 h3 h4 h5 hwg hj0
  go_enter Try.func16, Try.ntmps16
  go_wp2_with fail
  refine (heldV_any l1 (by omega) (by omega) h2').mono ?_
  rintro _ w1 ⟨rfl, hw⟩
  obtain rfl := hw.symm
  go_wp2_with fail
  refine (heldV_any l2 (by omega) (by omega) h3').mono ?_
  rintro _ w1 ⟨rfl, hw⟩
  obtain rfl := hw.symm
  go_wp2_with fail
  refine (held_mv l3 (by omega) (by omega) h4').mono ?_
  rintro _ w1 ⟨rfl, hw⟩
  obtain rfl := hw.symm
  go_wp2_with fail
  refine (held_mv l4 (by omega) (by omega) h5').mono ?_
  rintro _ w1 ⟨rfl, hw⟩
  obtain rfl := hw.symm
  go_wp2_with fail
  go_ret
  exact ⟨by rw [HW.out]; go_num, hb0⟩
end Go.Proofs.Ytnjkdfeajlnojaa
