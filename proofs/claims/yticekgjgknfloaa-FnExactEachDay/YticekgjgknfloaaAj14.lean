/-
  LotsFor of both, spelt out; EachDay of both.
-/
import Derived.Test.YticekgjgknfloaaAi14
namespace Go.Proofs.Yticekgjgknfloaa
namespace Lo
theorem lfL_le {nd ds : List Int} {S K : Int} : (lfL nd S K ds).length ≤ 10 := by
  cases h : lfB nd S K ds
  · rw [lfL_no h]; simp
  · rw [lfL_yes h, lots_len]
    simp only [lfB, Bool.and_eq_true] at h
    exact (good_of h.1).n10
theorem edL_le {nd : List Int} {S K : Int} : (edL nd S K).length ≤ 10 := by
  cases h : goodB nd S K
  · simp [edL, h]
  · rw [edL, if_pos h]; exact (good_of h).n10
end Lo
open Go.RowKit
theorem lf_v {a a' : Option Addr} {n c m c' : Nat} {xs ds : List Int} {S K : Int} {w : World} (HN : Hid (xs.length = n)) (HM : Hid (ds.length = m)) (hm : m ≤ 1048576) (HA : Hid (ARow w a xs)) (HA' : Hid (ARow w a' ds)) :
    Calls Try.prog 26 #[.agg #[.slice a n c, .int .i64 S, .int .i64 K], .slice a' m c'] w fun e w' => ∃ v, e = .returned (.tuple #[v, .bool (Lo.lfB xs S K ds)]) ∧ Below w.heap.size w w' ∧ AV w' w.heap.size w'.heap.size v (Lo.lfL xs S K ds).length (Lo.lfL xs S K ds) := lf_w HN HM hm HA HA'
theorem slf_v {a a' : Option Addr} {n c m c' : Nat} {xs ds : List Int} {S K : Int} {w : World} (HN : Hid (xs.length = n)) (HM : Hid (ds.length = m)) (hm : m ≤ 1048576) (HA : Hid (ARow w a xs)) (HA' : Hid (ARow w a' ds)) :
    Calls Try.prog 25 #[.agg #[.slice a n c, .int .i64 S, .int .i64 K], .slice a' m c'] w fun e w' => ∃ v, e = .returned (.tuple #[v, .bool (Lo.lfB xs S K ds)]) ∧ Below w.heap.size w w' ∧ AV w' w.heap.size w'.heap.size v (Lo.lfL xs S K ds).length (Lo.lfL xs S K ds) := slf_w HN HM hm HA HA'
theorem clone14 {b o n c : Nat} {xs : List Int} {w : World} (hx : xs.length = n) (hn : n ≤ 1000) (ha : ∀ i, i < xs.length → w.cell? ⟨b, o + i, none⟩ = some (.int .i64 (xs.getD i 0))) :
    Calls Try.prog 50 #[.slice (some ⟨b, o, none⟩) n c] w fun e w' => ∃ v, e = .returned v ∧ Below w.heap.size w w' ∧ AV w' w.heap.size w'.heap.size v n xs := by
  refine (Try.slices_Clone_int b o n c xs w (by rw [hx]; exact Nat.le_refl _) (by omega) ha).mono ?_
  rintro e w3 ⟨v, rfl, own3, _, hb3⟩
  rw [show (xs.take n).map (Value.int .i64) = ints xs by rw [← hx, List.take_length]; rfl] at own3
  exact ⟨v, rfl, hb3, AV.new own3⟩
set_option maxHeartbeats 4000000 in
theorem ed_w {a : Option Addr} {n c : Nat} {xs : List Int} {S K : Int} {w : World} (HN : Hid (xs.length = n)) (HA : Hid (ARow w a xs)) :
    Calls Try.prog 28 #[.agg #[.slice a n c, .int .i64 S, .int .i64 K]] w fun e w' => LB14 w (Lo.goodB xs S K) (Lo.edL xs S K) e w' := by
  have hB0 := below_new w (.cells #[.slice a n c, .int .i64 S, .int .i64 K] 27)
  have pb0 := TBox.new w (.slice a n c) (.int .i64 S) (.int .i64 K) 27
  obtain ⟨w0, hw0⟩ : ∃ W, W = w.alloc (.cells #[.slice a n c, .int .i64 S, .int .i64 K] 27) := ⟨_, rfl⟩
  rw [← hw0] at hB0 pb0
  have HW0 := hide hw0.symm
  obtain ⟨B, hB⟩ : ∃ b, b = w.heap.size := ⟨_, rfl⟩
  rw [← hB] at pb0
  have HBe := hide hB.symm
  have PB := hide pb0
  have R0 := hide (HA.out.below hB0)
  have HB0 := hide hB0
  clear hw0 hB pb0 hB0 HA
  obtain ⟨YY, hY⟩ : ∃ G, G = Lo.edL xs S K := ⟨_, rfl⟩
  rw [← hY]
  cases hg : Lo.goodB xs S K
  · have HG := hide hg
    have HNO : Hid (∀ W, Below w.heap.size w W → LB14 w false YY (.returned (.tuple #[.slice none 0 0, .bool false])) W) := hide fun W h => by
      rw [hY, Lo.edL, hg]
      exact ⟨_, rfl, h, av_nil14 _ _⟩
    obtain ⟨p0, p1, p2, _⟩ := PB.out
    clear hg hY
    go_enter Try.func28, Try.ntmps28
    go_upto_region 1 with fail
    rw [HW0.out, HBe.out]
    clear HW0 HBe
    go_wp2_with fail
    refine (gt_eq HN R0 HG).mono ?_
    rintro e w1 ⟨rfl, hb1⟩
    have HB1 := hide (HB0.out.trans (hb1.mono HB0.out.size))
    clear hb1
    go_wp2_with fail
    go_ret2
    exact HNO.out _ HB1.out
  · have HG := hide hg
    have g := Lo.good_of hg
    obtain ⟨n1, n10, hall, _⟩ := g
    rw [HN.out] at n1 n10
    have HYES : Hid (∀ v W, Below w.heap.size w W → (∃ lo hi, w.heap.size ≤ lo ∧ AV W lo hi v n xs) → LB14 w true YY (.returned (.tuple #[v, .bool true])) W) := hide fun v W h ⟨lo, hi, h1, h2⟩ => by
      rw [hY, Lo.edL, if_pos hg]
      refine ⟨v, rfl, h, ?_⟩
      rw [HN.out]
      exact ⟨owns_low h2.1 h1, fun g hg => by have := (h2.1.lt g hg).2; exact this, Nat.le_refl _⟩
    obtain ⟨b3, o3, rfl, hl3, rr3⟩ := R0.out.resolve_left (by intro e; have := HN.out; rw [e] at this; simp at this; omega)
    have HCL := hide fun (W : World) (h : Below w0.heap.size w0 W) => clone14 (c := c) (w := W) HN.out (by omega) fun i hi => (h.cell (p := ⟨b3, o3 + i, none⟩) hl3).trans (rr3 i hi)
    obtain ⟨p0, p1, p2, _⟩ := PB.out
    clear hg hY rr3 hall
    go_enter Try.func28, Try.ntmps28
    go_upto_region 1 with fail
    rw [HW0.out, HBe.out]
    clear HW0 HBe
    go_wp2_with fail
    refine (gt_eq HN R0 HG).mono ?_
    rintro e w1 ⟨rfl, hb1⟩
    have HU1 := hide hb1
    have HB1 := hide (HB0.out.trans (hb1.mono HB0.out.size))
    obtain ⟨p0, p1, p2, _⟩ := PB.out.below hb1
    clear hb1
    go_wp2_with fail
    refine (HCL.out _ HU1.out).mono ?_
    rintro e w2 ⟨v, rfl, hb2, o2⟩
    have HB2 := hide (HB1.out.trans (hb2.mono HB1.out.size))
    have HE := hide (show ∃ lo hi, w.heap.size ≤ lo ∧ AV w2 lo hi v n xs from ⟨_, _, HB1.out.size, o2⟩)
    clear hb2 o2
    go_wp2_with fail
    go_ret2
    exact HYES.out _ _ HB2.out HE.out
theorem ed_v {a : Option Addr} {n c : Nat} {xs : List Int} {S K : Int} {w : World} (HN : Hid (xs.length = n)) (HA : Hid (ARow w a xs)) :
    Calls Try.prog 28 #[.agg #[.slice a n c, .int .i64 S, .int .i64 K]] w fun e w' => ∃ v, e = .returned (.tuple #[v, .bool (Lo.goodB xs S K)]) ∧ Below w.heap.size w w' ∧ AV w' w.heap.size w'.heap.size v (Lo.edL xs S K).length (Lo.edL xs S K) := ed_w HN HA
set_option maxHeartbeats 1000000 in
theorem nb14_any {n : Nat} {w : World} (hn : n ≤ 1000) :
    Calls Try.prog 49 #[.int .i64 n] w fun e w' => ∃ a c, e = .returned (.slice a n c) ∧ Below w.heap.size w w' ∧ ARow w' a (Lo.nums n) := by
  go_enter Try.func49, Try.ntmps49
  go_wp2_with fail
  go_loopw [3, 4] (fun v s wr => ∃ k : Nat, s = .int .i64 k ∧ k ≤ n ∧ Hid (wr.ownsRow w.heap.size 3 1 v k (ints (Lo.nums k))) ∧ Hid (Below w.heap.size w wr)) (fun _ s _ => n - (intOf s).toNat)
  case atStart => exact ⟨0, rfl, Nat.zero_le _, hide (World.ownsRow_nil _ _ _ _), hide (Below.refl _ _)⟩
  case round =>
    obtain ⟨k, rfl, hk, HO, HB⟩ := hrel
    by_cases hlt : k < n
    · have i1 : (k : Int) < (n : Int) := by omega
      obtain ⟨av, cv, hv⟩ := own_form HO.out
      subst hv
      obtain ⟨v', w', hr, own', hg⟩ := push_int (x := (k : Int)) HO.out (by omega) HB.out.size
      have HO' : Hid (w'.ownsRow w.heap.size 3 1 v' (k + 1) (ints (Lo.nums (k + 1)))) := hide (by rw [Lo.nums, Lo.tbl, List.range_succ, List.map_append, List.map_cons, List.map_nil, ints_snoc]; exact own')
      have HB' := hide (HB.out.trans (grown_under' hg HO.out (Nat.le_refl _) HB.out.size))
      clear own' hg HO
      go_wp2_with (first | (at_builtin; refine Lib.wpList_append_run _ rfl _ _ _ _ rfl _ _ rfl rfl _ _ (hr _) ?_))
      go_roundw
      case rel => exact ⟨k + 1, by go_num, by omega, HO', HB'⟩
      case measure => simp only [intOf]; omega
    · have hke : k = n := by omega
      subst hke
      obtain ⟨av, cv, hv, hr⟩ := own_row (Lo.nums_len k) HO.out
      subst hv
      have HR := hide hr
      clear hr HO
      go_wp2_with fail
      go_ret
      exact ⟨av, cv, rfl, HB.out, HR.out⟩
set_option maxHeartbeats 4000000 in
theorem sed_w {a : Option Addr} {n c : Nat} {xs : List Int} {S K : Int} {w : World} (HN : Hid (xs.length = n)) (HA : Hid (ARow w a xs)) :
    Calls Try.prog 27 #[.agg #[.slice a n c, .int .i64 S, .int .i64 K]] w fun e w' => LB14 w (Lo.goodB xs S K) (Lo.edL xs S K) e w' := by
  have hB0 := below_new w (.cells #[.slice a n c, .int .i64 S, .int .i64 K] 27)
  have pb0 := TBox.new w (.slice a n c) (.int .i64 S) (.int .i64 K) 27
  obtain ⟨w0, hw0⟩ : ∃ W, W = w.alloc (.cells #[.slice a n c, .int .i64 S, .int .i64 K] 27) := ⟨_, rfl⟩
  rw [← hw0] at hB0 pb0
  have HW0 := hide hw0.symm
  obtain ⟨B, hB⟩ : ∃ b, b = w.heap.size := ⟨_, rfl⟩
  rw [← hB] at pb0
  have HBe := hide hB.symm
  have PB := hide pb0
  have R0 := hide (HA.out.below hB0)
  have HB0 := hide hB0
  clear hw0 hB pb0 hB0 HA
  obtain ⟨YY, hY⟩ : ∃ G, G = Lo.edL xs S K := ⟨_, rfl⟩
  rw [← hY]
  cases hg : Lo.goodB xs S K
  · have HG := hide hg
    have HNO : Hid (∀ W, Below w.heap.size w W → LB14 w false YY (.returned (.tuple #[.slice none 0 0, .bool false])) W) := hide fun W h => by
      rw [hY, Lo.edL, hg]
      exact ⟨_, rfl, h, av_nil14 _ _⟩
    obtain ⟨p0, p1, p2, _⟩ := PB.out
    clear hg hY
    go_enter Try.func27, Try.ntmps27
    go_upto_region 1 with fail
    rw [HW0.out, HBe.out]
    clear HW0 HBe
    go_wp2_with fail
    refine (sgt_eq HN R0 HG).mono ?_
    rintro e w1 ⟨rfl, hb1⟩
    have HB1 := hide (HB0.out.trans (hb1.mono HB0.out.size))
    clear hb1
    go_wp2_with fail
    go_ret2
    exact HNO.out _ HB1.out
  · have HG := hide hg
    have g := Lo.good_of hg
    obtain ⟨n1, n10, hall, _⟩ := g
    rw [HN.out] at n1 n10
    have HYES : Hid (∀ v W, Below w.heap.size w W → (∃ lo hi, w.heap.size ≤ lo ∧ AV W lo hi v n xs) → LB14 w true YY (.returned (.tuple #[v, .bool true])) W) := hide fun v W h ⟨lo, hi, h1, h2⟩ => by
      rw [hY, Lo.edL, if_pos hg]
      refine ⟨v, rfl, h, ?_⟩
      rw [HN.out]
      exact ⟨owns_low h2.1 h1, fun g hg => by have := (h2.1.lt g hg).2; exact this, Nat.le_refl _⟩
    have HSF := hide fun (W : World) (a' : Option Addr) (c' : Nat) (h : Below w0.heap.size w0 W) (h2 : ARow W a' (Lo.nums n)) => sfor_any (w := W) (a' := a') (c := c) (c' := c') (S := S) (K := K) HN (hide (Lo.nums_len n)) n10 (Lo.nums_days n1) (hide (R0.out.below h)) (hide h2) hall
    rw [show Lo.lotsL xs (Lo.nums n) = xs by rw [← HN.out]; exact Lo.nums_lots xs] at HSF
    have HNB := hide fun (W : World) => nb14_any (n := n) (w := W) (by omega)
    have HST : Hid (∀ W1 W2, Below w0.heap.size w0 W1 → Below W1.heap.size W1 W2 → W2.cell? ⟨B, 0, none⟩ = some (.slice a n c) ∧ W2.cell? ⟨B, 1, none⟩ = some (.int .i64 S) ∧ W2.cell? ⟨B, 2, none⟩ = some (.int .i64 K) ∧ Below w0.heap.size w0 W2) := hide fun W1 W2 h1 h2 => by
      have h := h1.trans (h2.mono h1.size)
      obtain ⟨x0, x1, x2, _⟩ := PB.out.below h
      exact ⟨x0, x1, x2, h⟩
    obtain ⟨p0, p1, p2, _⟩ := PB.out
    clear hg hY hall
    go_enter Try.func27, Try.ntmps27
    go_upto_region 1 with fail
    rw [HW0.out, HBe.out]
    clear HW0 HBe
    go_wp2_with fail
    refine (sgt_eq HN R0 HG).mono ?_
    rintro e w1 ⟨rfl, hb1⟩
    have hS0 := HST.out w1 w1.drew hb1 (Below.refl _ _).drew
    clear hb1 p0 p1 p2
    go_wp2_with fail
    go_region_held3 (fun w' => w'.cell? ⟨B, 0, none⟩ = some (.slice a n c) ∧ w'.cell? ⟨B, 1, none⟩ = some (.int .i64 S) ∧ w'.cell? ⟨B, 2, none⟩ = some (.int .i64 K) ∧ Below w0.heap.size w0 w')
      (first | exact hS0 | assumption | fail)
      (first
      | (go_at_call 49; obtain ⟨_, _, _, hbS⟩ := ‹_ ∧ _ ∧ _ ∧ _›; refine (HNB.out _).mono ?_; rintro e w3 ⟨a3, c3, rfl, hb3, r3⟩; have R3 := hide r3; clear r3; have hS3 := HST.out _ _ hbS hb3)
      | (go_at_call 41; obtain ⟨_, _, _, hbT⟩ := ‹_ ∧ _ ∧ _ ∧ _›; refine (HSF.out _ _ _ hbT R3.out).mono ?_; rintro e w4 ⟨b4, rfl, hb4, o4⟩; have HE := hide (show ∃ lo hi, w.heap.size ≤ lo ∧ AV w4 lo hi (.slice (some ⟨b4, 0, none⟩) n n) n xs from ⟨_, _, Nat.le_trans HB0.out.size hbT.size, o4⟩); clear o4; have hS4 := HST.out _ _ hbT hb4)
      | fail)
    obtain ⟨_, _, _, hbE⟩ := ‹_ ∧ _ ∧ _ ∧ _›
    have HBE := hide (HB0.out.trans (hbE.mono HB0.out.size))
    clear hbE hb3 hb4 hbS hbT hS3 hS4 hS0
    go_wp2_with fail
    go_ret2
    exact HYES.out _ _ HBE.out HE.out
theorem sed_v {a : Option Addr} {n c : Nat} {xs : List Int} {S K : Int} {w : World} (HN : Hid (xs.length = n)) (HA : Hid (ARow w a xs)) :
    Calls Try.prog 27 #[.agg #[.slice a n c, .int .i64 S, .int .i64 K]] w fun e w' => ∃ v, e = .returned (.tuple #[v, .bool (Lo.goodB xs S K)]) ∧ Below w.heap.size w w' ∧ AV w' w.heap.size w'.heap.size v (Lo.edL xs S K).length (Lo.edL xs S K) := sed_w HN HA
end Go.Proofs.Yticekgjgknfloaa
