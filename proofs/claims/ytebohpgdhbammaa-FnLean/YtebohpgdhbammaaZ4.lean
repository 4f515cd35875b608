/-
  In one: Aj14, Ds14, Dt14, Dv14, Ag14, An14, Ls14.
-/
import Derived.Test.YtebohpgdhbammaaZ3
import Derived.Test.YtebohpgdhbammaaZ2
namespace Go.Proofs.Ytebohpgdhbammaa
namespace Lo
theorem lfL_le {nd ds : List Int} {S K : Int} : (lfL nd S K ds).length ≤ 10 := by
  cases h : lfB nd S K ds
  · rw [lfL_no h]; simp
  · rw [lfL_yes h, lots_len]
    simp only [lfB, Bool.and_eq_true] at h
    exact (good_of h.1).n10
theorem edL_le {nd : List Int} {S K : Int} : (edL nd S K).length ≤ 10 := by
  cases h : goodB nd S K
  · simp [edL, h]
  · rw [edL, if_pos h]; exact (good_of h).n10
end Lo
open Go.RowKit
theorem lf_v {a a' : Option Addr} {n c m c' : Nat} {xs ds : List Int} {S K : Int} {w : World} (HN : Hid (xs.length = n)) (HM : Hid (ds.length = m)) (hm : m ≤ 1048576) (HA : Hid (ARow w a xs)) (HA' : Hid (ARow w a' ds)) :
    Calls Try.prog 19 #[.agg #[.slice a n c, .int .i64 S, .int .i64 K], .slice a' m c'] w fun e w' => ∃ v, e = .returned (.tuple #[v, .bool (Lo.lfB xs S K ds)]) ∧ Below w.heap.size w w' ∧ AV w' w.heap.size w'.heap.size v (Lo.lfL xs S K ds).length (Lo.lfL xs S K ds) := lf_w HN HM hm HA HA'
theorem slf_v {a a' : Option Addr} {n c m c' : Nat} {xs ds : List Int} {S K : Int} {w : World} (HN : Hid (xs.length = n)) (HM : Hid (ds.length = m)) (hm : m ≤ 1048576) (HA : Hid (ARow w a xs)) (HA' : Hid (ARow w a' ds)) :
    Calls Try.prog 20 #[.agg #[.slice a n c, .int .i64 S, .int .i64 K], .slice a' m c'] w fun e w' => ∃ v, e = .returned (.tuple #[v, .bool (Lo.lfB xs S K ds)]) ∧ Below w.heap.size w w' ∧ AV w' w.heap.size w'.heap.size v (Lo.lfL xs S K ds).length (Lo.lfL xs S K ds) := slf_w HN HM hm HA HA'
theorem clone14 {b o n c : Nat} {xs : List Int} {w : World} (hx : xs.length = n) (hn : n ≤ 1000) (ha : ∀ i, i < xs.length → w.cell? ⟨b, o + i, none⟩ = some (.int .i64 (xs.getD i 0))) :
    Calls Try.prog 49 #[.slice (some ⟨b, o, none⟩) n c] w fun e w' => ∃ v, e = .returned v ∧ Below w.heap.size w w' ∧ AV w' w.heap.size w'.heap.size v n xs := by
  refine (Try.slices_Clone_int b o n c xs w (by rw [hx]; exact Nat.le_refl _) (by omega) ha).mono ?_
  rintro e w3 ⟨v, rfl, own3, _, hb3⟩
  rw [show (xs.take n).map (Value.int .i64) = ints xs by rw [← hx, List.take_length]; rfl] at own3
  exact ⟨v, rfl, hb3, AV.new own3⟩
set_option maxRecDepth 100000 in
set_option maxHeartbeats 4000000 in
theorem ed_w {a : Option Addr} {n c : Nat} {xs : List Int} {S K : Int} {w : World} (HN : Hid (xs.length = n)) (HA : Hid (ARow w a xs)) :
    Calls Try.prog 22 #[.agg #[.slice a n c, .int .i64 S, .int .i64 K]] w fun e w' => LB14 w (Lo.goodB xs S K) (Lo.edL xs S K) e w' := by
  have hB0 := below_new w (.cells #[.slice a n c, .int .i64 S, .int .i64 K] 25)
  have pb0 := TBox.new w (.slice a n c) (.int .i64 S) (.int .i64 K) 25
  obtain ⟨w0, hw0⟩ : ∃ W, W = w.alloc (.cells #[.slice a n c, .int .i64 S, .int .i64 K] 25) := ⟨_, rfl⟩
  rw [← hw0] at hB0 pb0
  have HW0 := hide hw0.symm
  obtain ⟨B, hB⟩ : ∃ b, b = w.heap.size := ⟨_, rfl⟩
  rw [← hB] at pb0
  have HBe := hide hB.symm
  have PB := hide pb0
  have R0 := hide (HA.out.below hB0)
  have HB0 := hide hB0
  clear hw0 hB pb0 hB0 HA
  obtain ⟨YY, hY⟩ : ∃ G, G = Lo.edL xs S K := ⟨_, rfl⟩
  rw [← hY]
  cases hg : Lo.goodB xs S K
  · have HG := hide hg
    have HNO : Hid (∀ W, Below w.heap.size w W → LB14 w false YY (.returned (.tuple #[.slice none 0 0, .bool false])) W) := hide fun W h => by
      rw [hY, Lo.edL, hg]
      exact ⟨_, rfl, h, av_nil14 _ _⟩
    obtain ⟨p0, p1, p2, _⟩ := PB.out
    clear hg hY
    go_enter Try.func22, Try.ntmps22
    go_upto_region 1 with fail
    rw [HW0.out, HBe.out]
    clear HW0 HBe
    go_wp2_with fail
    refine (gt_eq HN R0 HG).mono ?_
    rintro e w1 ⟨rfl, hb1⟩
    have HB1 := hide (HB0.out.trans (hb1.mono HB0.out.size))
    clear hb1
    go_wp2_with fail
    go_ret2
    exact HNO.out _ HB1.out
  · have HG := hide hg
    have g := Lo.good_of hg
    obtain ⟨n1, n10, hall, _⟩ := g
    rw [HN.out] at n1 n10
    have HYES : Hid (∀ v W, Below w.heap.size w W → (∃ lo hi, w.heap.size ≤ lo ∧ AV W lo hi v n xs) → LB14 w true YY (.returned (.tuple #[v, .bool true])) W) := hide fun v W h ⟨lo, hi, h1, h2⟩ => by
      rw [hY, Lo.edL, if_pos hg]
      refine ⟨v, rfl, h, ?_⟩
      rw [HN.out]
      exact ⟨owns_low h2.1 h1, fun g hg => by have := (h2.1.lt g hg).2; exact this, Nat.le_refl _⟩
    obtain ⟨b3, o3, rfl, hl3, rr3⟩ := R0.out.resolve_left (by intro e; have := HN.out; rw [e] at this; simp at this; omega)
    have HCL := hide fun (W : World) (h : Below w0.heap.size w0 W) => clone14 (c := c) (w := W) HN.out (by omega) fun i hi => (h.cell (p := ⟨b3, o3 + i, none⟩) hl3).trans (rr3 i hi)
    obtain ⟨p0, p1, p2, _⟩ := PB.out
    clear hg hY rr3 hall
    go_enter Try.func22, Try.ntmps22
    go_upto_region 1 with fail
    rw [HW0.out, HBe.out]
    clear HW0 HBe
    go_wp2_with fail
    refine (gt_eq HN R0 HG).mono ?_
    rintro e w1 ⟨rfl, hb1⟩
    have HU1 := hide hb1
    have HB1 := hide (HB0.out.trans (hb1.mono HB0.out.size))
    obtain ⟨p0, p1, p2, _⟩ := PB.out.below hb1
    clear hb1
    go_wp2_with fail
    refine (HCL.out _ HU1.out).mono ?_
    rintro e w2 ⟨v, rfl, hb2, o2⟩
    have HB2 := hide (HB1.out.trans (hb2.mono HB1.out.size))
    have HE := hide (show ∃ lo hi, w.heap.size ≤ lo ∧ AV w2 lo hi v n xs from ⟨_, _, HB1.out.size, o2⟩)
    clear hb2 o2
    go_wp2_with fail
    go_ret2
    exact HYES.out _ _ HB2.out HE.out
theorem ed_v {a : Option Addr} {n c : Nat} {xs : List Int} {S K : Int} {w : World} (HN : Hid (xs.length = n)) (HA : Hid (ARow w a xs)) :
    Calls Try.prog 22 #[.agg #[.slice a n c, .int .i64 S, .int .i64 K]] w fun e w' => ∃ v, e = .returned (.tuple #[v, .bool (Lo.goodB xs S K)]) ∧ Below w.heap.size w w' ∧ AV w' w.heap.size w'.heap.size v (Lo.edL xs S K).length (Lo.edL xs S K) := ed_w HN HA
set_option maxRecDepth 100000 in
set_option maxHeartbeats 1000000 in
theorem nb14_any {n : Nat} {w : World} (hn : n ≤ 1000) :
    Calls Try.prog 50 #[.int .i64 n] w fun e w' => ∃ a c, e = .returned (.slice a n c) ∧ Below w.heap.size w w' ∧ ARow w' a (Lo.nums n) := by
  go_enter Try.func50, Try.ntmps50
  go_wp2_with fail
  go_loopw [3, 4] (fun v s wr => ∃ k : Nat, s = .int .i64 k ∧ k ≤ n ∧ Hid (wr.ownsRow w.heap.size 3 1 v k (ints (Lo.nums k))) ∧ Hid (Below w.heap.size w wr)) (fun _ s _ => n - (intOf s).toNat)
  case atStart => exact ⟨0, rfl, Nat.zero_le _, hide (World.ownsRow_nil _ _ _ _), hide (Below.refl _ _)⟩
  case round =>
    obtain ⟨k, rfl, hk, HO, HB⟩ := hrel
    by_cases hlt : k < n
    · have i1 : (k : Int) < (n : Int) := by omega
      obtain ⟨av, cv, hv⟩ := own_form HO.out
      subst hv
      obtain ⟨v', w', hr, own', hg⟩ := push_int (x := (k : Int)) HO.out (by omega) HB.out.size
      have HO' : Hid (w'.ownsRow w.heap.size 3 1 v' (k + 1) (ints (Lo.nums (k + 1)))) := hide (by rw [Lo.nums, Lo.tbl, List.range_succ, List.map_append, List.map_cons, List.map_nil, ints_snoc]; exact own')
      have HB' := hide (HB.out.trans (grown_under' hg HO.out (Nat.le_refl _) HB.out.size))
      clear own' hg HO
      go_wp2_with (first | (at_builtin; refine Lib.wpList_append_run _ rfl _ _ _ _ rfl _ _ rfl rfl _ _ (hr _) ?_))
      go_roundw
      case rel => exact ⟨k + 1, by go_num, by omega, HO', HB'⟩
      case measure => simp only [intOf]; omega
    · have hke : k = n := by omega
      subst hke
      obtain ⟨av, cv, hv, hr⟩ := own_row (Lo.nums_len k) HO.out
      subst hv
      have HR := hide hr
      clear hr HO
      go_wp2_with fail
      go_ret
      exact ⟨av, cv, rfl, HB.out, HR.out⟩
set_option maxRecDepth 100000 in
set_option maxHeartbeats 4000000 in
theorem sed_w {a : Option Addr} {n c : Nat} {xs : List Int} {S K : Int} {w : World} (HN : Hid (xs.length = n)) (HA : Hid (ARow w a xs)) :
    Calls Try.prog 23 #[.agg #[.slice a n c, .int .i64 S, .int .i64 K]] w fun e w' => LB14 w (Lo.goodB xs S K) (Lo.edL xs S K) e w' := by
  have hB0 := below_new w (.cells #[.slice a n c, .int .i64 S, .int .i64 K] 25)
  have pb0 := TBox.new w (.slice a n c) (.int .i64 S) (.int .i64 K) 25
  obtain ⟨w0, hw0⟩ : ∃ W, W = w.alloc (.cells #[.slice a n c, .int .i64 S, .int .i64 K] 25) := ⟨_, rfl⟩
  rw [← hw0] at hB0 pb0
  have HW0 := hide hw0.symm
  obtain ⟨B, hB⟩ : ∃ b, b = w.heap.size := ⟨_, rfl⟩
  rw [← hB] at pb0
  have HBe := hide hB.symm
  have PB := hide pb0
  have R0 := hide (HA.out.below hB0)
  have HB0 := hide hB0
  clear hw0 hB pb0 hB0 HA
  obtain ⟨YY, hY⟩ : ∃ G, G = Lo.edL xs S K := ⟨_, rfl⟩
  rw [← hY]
  cases hg : Lo.goodB xs S K
  · have HG := hide hg
    have HNO : Hid (∀ W, Below w.heap.size w W → LB14 w false YY (.returned (.tuple #[.slice none 0 0, .bool false])) W) := hide fun W h => by
      rw [hY, Lo.edL, hg]
      exact ⟨_, rfl, h, av_nil14 _ _⟩
    obtain ⟨p0, p1, p2, _⟩ := PB.out
    clear hg hY
    go_enter Try.func23, Try.ntmps23
    go_upto_region 1 with fail
    rw [HW0.out, HBe.out]
    clear HW0 HBe
    go_wp2_with fail
    refine (sgt_eq HN R0 HG).mono ?_
    rintro e w1 ⟨rfl, hb1⟩
    have HB1 := hide (HB0.out.trans (hb1.mono HB0.out.size))
    clear hb1
    go_wp2_with fail
    go_ret2
    exact HNO.out _ HB1.out
  · have HG := hide hg
    have g := Lo.good_of hg
    obtain ⟨n1, n10, hall, _⟩ := g
    rw [HN.out] at n1 n10
    have HYES : Hid (∀ v W, Below w.heap.size w W → (∃ lo hi, w.heap.size ≤ lo ∧ AV W lo hi v n xs) → LB14 w true YY (.returned (.tuple #[v, .bool true])) W) := hide fun v W h ⟨lo, hi, h1, h2⟩ => by
      rw [hY, Lo.edL, if_pos hg]
      refine ⟨v, rfl, h, ?_⟩
      rw [HN.out]
      exact ⟨owns_low h2.1 h1, fun g hg => by have := (h2.1.lt g hg).2; exact this, Nat.le_refl _⟩
    have HSF := hide fun (W : World) (a' : Option Addr) (c' : Nat) (h : Below w0.heap.size w0 W) (h2 : ARow W a' (Lo.nums n)) => sfor_any (w := W) (a' := a') (c := c) (c' := c') (S := S) (K := K) HN (hide (Lo.nums_len n)) n10 (Lo.nums_days n1) (hide (R0.out.below h)) (hide h2) hall
    rw [show Lo.lotsL xs (Lo.nums n) = xs by rw [← HN.out]; exact Lo.nums_lots xs] at HSF
    have HNB := hide fun (W : World) => nb14_any (n := n) (w := W) (by omega)
    have HST : Hid (∀ W1 W2, Below w0.heap.size w0 W1 → Below W1.heap.size W1 W2 → W2.cell? ⟨B, 0, none⟩ = some (.slice a n c) ∧ W2.cell? ⟨B, 1, none⟩ = some (.int .i64 S) ∧ W2.cell? ⟨B, 2, none⟩ = some (.int .i64 K) ∧ Below w0.heap.size w0 W2) := hide fun W1 W2 h1 h2 => by
      have h := h1.trans (h2.mono h1.size)
      obtain ⟨x0, x1, x2, _⟩ := PB.out.below h
      exact ⟨x0, x1, x2, h⟩
    obtain ⟨p0, p1, p2, _⟩ := PB.out
    clear hg hY hall
    go_enter Try.func23, Try.ntmps23
    go_upto_region 1 with fail
    rw [HW0.out, HBe.out]
    clear HW0 HBe
    go_wp2_with fail
    refine (sgt_eq HN R0 HG).mono ?_
    rintro e w1 ⟨rfl, hb1⟩
    have hS0 := HST.out w1 w1.drew hb1 (Below.refl _ _).drew
    clear hb1 p0 p1 p2
    go_wp2_with fail
    go_region_held3 (fun w' => w'.cell? ⟨B, 0, none⟩ = some (.slice a n c) ∧ w'.cell? ⟨B, 1, none⟩ = some (.int .i64 S) ∧ w'.cell? ⟨B, 2, none⟩ = some (.int .i64 K) ∧ Below w0.heap.size w0 w')
      (first | exact hS0 | assumption | fail)
      (first
      | (go_at_call 50; obtain ⟨_, _, _, hbS⟩ := ‹_ ∧ _ ∧ _ ∧ _›; refine (HNB.out _).mono ?_; rintro e w3 ⟨a3, c3, rfl, hb3, r3⟩; have R3 := hide r3; clear r3; have hS3 := HST.out _ _ hbS hb3)
      | (go_at_call 44; obtain ⟨_, _, _, hbT⟩ := ‹_ ∧ _ ∧ _ ∧ _›; refine (HSF.out _ _ _ hbT R3.out).mono ?_; rintro e w4 ⟨b4, rfl, hb4, o4⟩; have HE := hide (show ∃ lo hi, w.heap.size ≤ lo ∧ AV w4 lo hi (.slice (some ⟨b4, 0, none⟩) n n) n xs from ⟨_, _, Nat.le_trans HB0.out.size hbT.size, o4⟩); clear o4; have hS4 := HST.out _ _ hbT hb4)
      | fail)
    obtain ⟨_, _, _, hbE⟩ := ‹_ ∧ _ ∧ _ ∧ _›
    have HBE := hide (HB0.out.trans (hbE.mono HB0.out.size))
    clear hbE hb3 hb4 hbS hbT hS3 hS4 hS0
    go_wp2_with fail
    go_ret2
    exact HYES.out _ _ HBE.out HE.out
theorem sed_v {a : Option Addr} {n c : Nat} {xs : List Int} {S K : Int} {w : World} (HN : Hid (xs.length = n)) (HA : Hid (ARow w a xs)) :
    Calls Try.prog 23 #[.agg #[.slice a n c, .int .i64 S, .int .i64 K]] w fun e w' => ∃ v, e = .returned (.tuple #[v, .bool (Lo.goodB xs S K)]) ∧ Below w.heap.size w w' ∧ AV w' w.heap.size w'.heap.size v (Lo.edL xs S K).length (Lo.edL xs S K) := sed_w HN HA
end Go.Proofs.Ytebohpgdhbammaa
namespace Go.Proofs.Ytebohpgdhbammaa
open Go.RowKit

/-- A trade, as the laws get it. -/
def DTPost (w : World) (e : Ending) (w' : World) : Prop :=
  ∃ (a : Option Addr) (n c : Nat) (xs : List Int) (S K : Int), e = .returned (.agg #[.slice a n c, .int .i64 S, .int .i64 K]) ∧ xs.length = n ∧ n ≤ c ∧ n ≤ 12 ∧ ARow w' a xs ∧ (∀ b off, a = some ⟨b, off, none⟩ → w.heap.size ≤ b) ∧ Below w.heap.size w w'
/-- A trade and a list. -/
def DLPost (w : World) (e : Ending) (w' : World) : Prop :=
  ∃ (a : Option Addr) (n c : Nat) (xs : List Int) (S K : Int) (a' : Option Addr) (m c' : Nat) (ls : List Int), e = .returned (.tuple #[.agg #[.slice a n c, .int .i64 S, .int .i64 K], .slice a' m c']) ∧ xs.length = n ∧ n ≤ c ∧ n ≤ 12 ∧ ls.length = m ∧ m ≤ c' ∧ m ≤ 13 ∧ ARow w' a xs ∧ ARow w' a' ls ∧ (∀ b off, a = some ⟨b, off, none⟩ → w.heap.size ≤ b) ∧ (∀ b off, a' = some ⟨b, off, none⟩ → w.heap.size ≤ b) ∧ Below w.heap.size w w'
theorem zero14 (w : World) : (w.alloc (.cells #[.slice none 0 0, .int .i64 0, .int .i64 0] 25)).cell? ⟨w.heap.size, 0, none⟩ = some (.slice none 0 0) ∧ (w.alloc (.cells #[.slice none 0 0, .int .i64 0, .int .i64 0] 25)).cell? ⟨w.heap.size, 1, none⟩ = some (.int .i64 0) ∧ (w.alloc (.cells #[.slice none 0 0, .int .i64 0, .int .i64 0] 25)).cell? ⟨w.heap.size, 2, none⟩ = some (.int .i64 0) ∧ (∀ i, (w.alloc (.cells #[.slice none 0 0, .int .i64 0, .int .i64 0] 25)).frozen? ⟨w.heap.size, i, none⟩ = false) := ⟨by simp, by simp, by simp, fun i => by simp [go_sem]⟩
/-- The answer's variable, with nothing in it yet. -/
structure RB (w : World) (R : Nat) : Prop where
  r0 : w.cell? ⟨R, 0, none⟩ = some (.slice none 0 0)
  r1 : w.cell? ⟨R, 1, none⟩ = some (.int .i64 0)
  r2 : w.cell? ⟨R, 2, none⟩ = some (.int .i64 0)
  rf : ∀ i, w.frozen? ⟨R, i, none⟩ = false
  lt : R < w.heap.size
theorem RB.new (w : World) : RB (w.alloc (.cells #[.slice none 0 0, .int .i64 0, .int .i64 0] 25)) w.heap.size := ⟨(zero14 w).1, (zero14 w).2.1, (zero14 w).2.2.1, (zero14 w).2.2.2, by simp⟩
theorem RB.blk {w w' : World} {R : Nat} (h : RB w R) (hb : w'.heap[R]? = w.heap[R]?) (hs : w.heap.size ≤ w'.heap.size) : RB w' R :=
  ⟨(World.cell?_of_block (a := ⟨R, 0, none⟩) hb).trans h.r0, (World.cell?_of_block (a := ⟨R, 1, none⟩) hb).trans h.r1, (World.cell?_of_block (a := ⟨R, 2, none⟩) hb).trans h.r2, fun i => (World.frozen?_of_block (a := ⟨R, i, none⟩) hb).trans (h.rf i), Nat.lt_of_lt_of_le h.lt hs⟩
theorem RB.below {w w' : World} {R : Nat} (h : RB w R) (hb : Below w.heap.size w w') : RB w' R := h.blk (hb.block R h.lt) hb.size
theorem RB.kp {w w' : World} {c R : Nat} (h : RB w R) (hk : Kp c w w') (hne : R ≠ c) : RB w' R := h.blk (hk.block R h.lt hne) hk.size
theorem set3_below {w wr : World} {R : Nat} {v0 v1 v2 : Value} (h : Below w.heap.size w wr) (hR : w.heap.size ≤ R) : Below w.heap.size w (((wr.setCell ⟨R, 0, none⟩ v0).setCell ⟨R, 1, none⟩ v1).setCell ⟨R, 2, none⟩ v2) :=
  ((h.setCell (p := ⟨R, 0, none⟩) hR _).setCell (p := ⟨R, 1, none⟩) hR _).setCell (p := ⟨R, 2, none⟩) hR _
theorem set3_row {wr : World} {R : Nat} {v0 v1 v2 : Value} {a : Option Addr} {xs : List Int} (h : ARow wr a xs) (hR : ∀ b off, a = some ⟨b, off, none⟩ → b ≠ R) : ARow (((wr.setCell ⟨R, 0, none⟩ v0).setCell ⟨R, 1, none⟩ v1).setCell ⟨R, 2, none⟩ v2) a xs := by
  rcases h with h | ⟨b, off, e, hb, hc⟩
  · exact Or.inl h
  · have hne := hR b off e
    have st : ∀ (W : World) (o i : Nat) (v : Value), (W.setCell ⟨R, o, none⟩ v).cell? ⟨b, i, none⟩ = W.cell? ⟨b, i, none⟩ := fun W o i v => World.cell?_setCell_other _ _ _ _ (by intro e2; exact hne (congrArg Addr.block e2).symm)
    exact Or.inr ⟨b, off, e, by simpa using hb, fun i hi => by rw [st, st, st]; exact hc i hi⟩
theorem own_lo14 {w : World} {base n c : Nat} {a : Option Addr} {xs : List Value} (h : w.ownsRow base 3 1 (.slice a n c) n xs) : ∀ b off, a = some ⟨b, off, none⟩ → base ≤ b := fun b off e => by
  subst e
  rcases h.2 with ⟨e, _⟩ | ⟨g, cap, cur, e, hb, _⟩
  · cases e
  · cases e; exact hb
theorem own_ne14 {w : World} {base n c R : Nat} {a : Option Addr} {xs : List Value} (h : w.ownsRow base 3 1 (.slice a n c) n xs) (hR : R < base) : ∀ b off, a = some ⟨b, off, none⟩ → b ≠ R := fun b off e => by
  subst e
  rcases h.2 with ⟨e, _⟩ | ⟨g, cap, cur, e, hb, _⟩
  · cases e
  · cases e; omega
set_option maxRecDepth 100000 in
set_option maxHeartbeats 2000000 in
theorem drawGT_any {a : Option Addr} {len cap : Nat} {w : World} (hs : Hid (Src w a len)) :
    Calls Try.prog 48 #[.slice a len cap] w fun e w' => DTPost w e w' := by
  have hb0 := below_new w (.cells #[.slice none 0 0, .int .i64 0, .int .i64 0] 25)
  have HC := hide (cur_new (cap := cap) (hs.out.below hb0))
  have hbc := below_new (w.alloc (.cells #[.slice none 0 0, .int .i64 0, .int .i64 0] 25)) (.cells #[.slice a len cap, .int .i64 0, .int .u64 0] 45)
  have HR := hide ((RB.new w).below hbc)
  have HB := hide (hb0.trans (hbc.mono hb0.size))
  rw [World.size_alloc] at HC
  obtain ⟨c, hc⟩ : ∃ c, c = w.heap.size + 1 := ⟨_, rfl⟩
  obtain ⟨R, hR⟩ : ∃ R, R = w.heap.size := ⟨_, rfl⟩
  rw [← hc] at HC
  rw [← hR] at HR
  have hRc : R ≠ c := by omega
  have HRw := hide (show w.heap.size ≤ R ∧ w.heap.size ≤ c by omega)
  have zz : R < ((w.alloc (.cells #[.slice none 0 0, .int .i64 0, .int .i64 0] 25)).alloc (.cells #[.slice a len cap, .int .i64 0, .int .u64 0] 45)).heap.size := by simp; omega
  obtain ⟨w0, hw0⟩ : ∃ W, W = (w.alloc (.cells #[.slice none 0 0, .int .i64 0, .int .i64 0] 25)).alloc (.cells #[.slice a len cap, .int .i64 0, .int .u64 0] 45) := ⟨_, rfl⟩
  rw [← hw0] at HC HR HB zz
  have HW0 := hide hw0.symm
  have HCe := hide hc.symm
  have HRe := hide hR.symm
  clear hb0 hbc hw0 hc hR
  go_enter Try.func48, Try.ntmps48
  go_upto_region 2 with fail
  rw [HW0.out, HCe.out, HRe.out]
  clear HW0 HCe HRe
  go_wp2_with fail
  refine (drawT_any HC.out (by omega)).mono ?_
  rintro e w1 ⟨v, xs, S, K, rfl, hl, own1, hc1, hk1⟩
  obtain ⟨ax, cx, ex, hcap, rx⟩ := own_cap rfl own1
  subst ex
  have HR1 := HR.out.kp hk1 hRc
  have x0 := HR1.r0
  have x1 := HR1.r1
  have x2 := HR1.r2
  have y0 := HR1.rf 0
  have y1 := HR1.rf 1
  have y2 := HR1.rf 2
  have HRX := hide (set3_row (R := R) (v0 := .slice ax xs.length cx) (v1 := .int .i64 S) (v2 := .int .i64 K) rx (own_ne14 own1 zz))
  have HBX := hide (set3_below (R := R) (v0 := .slice ax xs.length cx) (v1 := .int .i64 S) (v2 := .int .i64 K) (HB.out.trans (hk1.below (B := w.heap.size) HRw.out.2 HB.out.size)) HRw.out.1)
  have HLo := hide fun b off e => Nat.le_trans HB.out.size (own_lo14 own1 b off e)
  clear own1 hc1 hk1 rx HR1
  go_wp2_with fail
  refine bodyPost_ret (v := .agg #[.slice ax xs.length cx, .int .i64 S, .int .i64 K]) ?_ ?_ ?_
  · simp [results, Try.results48, go_sem, *]
  · rfl
  · exact ⟨_, _, _, xs, S, K, rfl, rfl, hcap, hl, HRX.out, HLo.out, HBX.out⟩
set_option maxRecDepth 100000 in
set_option maxHeartbeats 2000000 in
theorem drawED_any {a : Option Addr} {len cap : Nat} {w : World} (hs : Hid (Src w a len)) :
    Calls Try.prog 21 #[.slice a len cap] w fun e w' => DTPost w e w' := by
  have hb0 := below_new w (.cells #[.slice none 0 0, .int .i64 0, .int .i64 0] 25)
  have HS := hide (hide (hs.out.below hb0))
  have HR := hide (RB.new w)
  have HB := hide hb0
  obtain ⟨R, hR⟩ : ∃ R, R = w.heap.size := ⟨_, rfl⟩
  rw [← hR] at HR
  have HRw := hide (show w.heap.size ≤ R by omega)
  obtain ⟨w0, hw0⟩ : ∃ W, W = w.alloc (.cells #[.slice none 0 0, .int .i64 0, .int .i64 0] 25) := ⟨_, rfl⟩
  rw [← hw0] at HS HR HB
  have HW0 := hide hw0.symm
  have HRe := hide hR.symm
  clear hb0 hw0 hR
  go_enter Try.func21, Try.ntmps21
  go_upto_region 1 with fail
  rw [HW0.out, HRe.out]
  clear HW0 HRe
  go_wp2_with fail
  refine (drawGT_any HS.out).mono ?_
  rintro e w1 ⟨ax, n, cx, xs, S, K, rfl, hx, hcap, hl, rx, hlo, hb1⟩
  have HR1 := HR.out.below hb1
  have x0 := HR1.r0
  have x1 := HR1.r1
  have x2 := HR1.r2
  have y0 := HR1.rf 0
  have y1 := HR1.rf 1
  have y2 := HR1.rf 2
  have HX := hide hx
  have hlt := HR.out.lt
  have HLo := hide fun b off e => Nat.le_trans HB.out.size (hlo b off e)
  have HRX := hide (set3_row (R := R) (v0 := .slice ax n cx) (v1 := .int .i64 S) (v2 := .int .i64 K) rx fun b off e => by have := hlo b off e; omega)
  have HBX := hide (set3_below (R := R) (v0 := .slice ax n cx) (v1 := .int .i64 S) (v2 := .int .i64 K) (HB.out.trans (hb1.mono HB.out.size)) HRw.out)
  clear hb1 rx hx hlo HR1
  go_wp2_with fail
  refine bodyPost_ret (v := .agg #[.slice ax n cx, .int .i64 S, .int .i64 K]) ?_ ?_ ?_
  · simp [results, Try.results21, go_sem, *]
  · rfl
  · exact ⟨_, _, _, xs, S, K, rfl, HX.out, hcap, hl, HRX.out, HLo.out, HBX.out⟩
end Go.Proofs.Ytebohpgdhbammaa
namespace Go.Proofs.Ytebohpgdhbammaa
open Go.RowKit

/-- The answer's variable, a trade in a variable, its list, the cursor: all below base. -/
structure DX (w wr : World) (c len cap N : Nat) (a : Option Addr) (R V : Nat) (ax : Option Addr) (n cx : Nat) (xs : List Int) (S K : Int) (base : Nat) : Prop where
  rb : RB wr R
  tv : TBox wr V (.slice ax n cx) (.int .i64 S) (.int .i64 K)
  rx : ARow wr ax xs
  cur : Cur wr c a len cap N
  kp : Kp c w wr
  hR : w.heap.size ≤ R ∧ R < base ∧ R ≠ c
  hV : R < V ∧ V < base ∧ V ≠ c
  hx : ∀ b off, ax = some ⟨b, off, none⟩ → w.heap.size ≤ b ∧ R < b ∧ b < base ∧ b ≠ c
  hc : w.heap.size ≤ c ∧ c < base
  ho : ∀ b off, a = some ⟨b, off, none⟩ → 0 < len → b < w.heap.size
  hs : base ≤ wr.heap.size
theorem DX.of {w wr w2 : World} {c len cap N M : Nat} {a : Option Addr} {R V : Nat} {ax : Option Addr} {n cx : Nat} {xs : List Int} {S K : Int} {base : Nat} (h : DX w wr c len cap N a R V ax n cx xs S K base) (hb : ∀ b, b < base → b ≠ c → w2.heap[b]? = wr.heap[b]?) (hs : wr.heap.size ≤ w2.heap.size) (cur : Cur w2 c a len cap M) (kp : Kp c w w2) : DX w w2 c len cap M a R V ax n cx xs S K base := by
  have hV := hb V h.hV.2.1 h.hV.2.2
  refine ⟨h.rb.blk (hb R h.hR.2.1 h.hR.2.2) hs, ⟨(World.cell?_of_block (a := ⟨V, 0, none⟩) hV).trans h.tv.1, (World.cell?_of_block (a := ⟨V, 1, none⟩) hV).trans h.tv.2.1, (World.cell?_of_block (a := ⟨V, 2, none⟩) hV).trans h.tv.2.2.1, Nat.lt_of_lt_of_le h.tv.2.2.2 hs⟩, ?_, cur, kp, h.hR, h.hV, h.hx, h.hc, h.ho, Nat.le_trans h.hs hs⟩
  rcases h.rx with e | ⟨b, off, e, hl, hcell⟩
  · exact Or.inl e
  · obtain ⟨_, _, h1, h2⟩ := h.hx b off e
    exact Or.inr ⟨b, off, e, Nat.lt_of_lt_of_le hl hs, fun i hi => (World.cell?_of_block (a := ⟨b, off + i, none⟩) (hb b h1 h2)).trans (hcell i hi)⟩
theorem DX.step {w wr w2 : World} {c len cap N M : Nat} {a : Option Addr} {R V : Nat} {ax : Option Addr} {n cx : Nat} {xs : List Int} {S K : Int} {base : Nat} (h : DX w wr c len cap N a R V ax n cx xs S K base) (hk : Kp c wr w2) (cur : Cur w2 c a len cap M) : DX w w2 c len cap M a R V ax n cx xs S K base :=
  h.of (fun b hb hne => hk.block b (by have := h.hs; omega) hne) hk.size cur (h.kp.trans hk)
theorem DX.low {w wr w2 : World} {c len cap N : Nat} {a : Option Addr} {R V : Nat} {ax : Option Addr} {n cx : Nat} {xs : List Int} {S K : Int} {base : Nat} (h : DX w wr c len cap N a R V ax n cx xs S K base) (hb : Below base wr w2) : DX w w2 c len cap N a R V ax n cx xs S K base :=
  h.of (fun b hbb _ => hb.block b hbb) hb.size (h.cur.low14 hb h.hc.2 fun b off e hl => by have := h.ho b off e hl; have := h.hc; omega) (kp_below14 h.kp hb (by have := h.hc; omega))
theorem DX.below {w wr w2 : World} {c len cap N : Nat} {a : Option Addr} {R V : Nat} {ax : Option Addr} {n cx : Nat} {xs : List Int} {S K : Int} {base : Nat} (h : DX w wr c len cap N a R V ax n cx xs S K base) (hb : Below wr.heap.size wr w2) : DX w w2 c len cap N a R V ax n cx xs S K base := h.low (hb.mono h.hs)
theorem DX.le {w wr : World} {c len cap N M : Nat} {a : Option Addr} {R V : Nat} {ax : Option Addr} {n cx : Nat} {xs : List Int} {S K : Int} {base : Nat} (h : DX w wr c len cap N a R V ax n cx xs S K base) (hNM : N ≤ M) : DX w wr c len cap M a R V ax n cx xs S K base := ⟨h.rb, h.tv, h.rx, h.cur.le hNM, h.kp, h.hR, h.hV, h.hx, h.hc, h.ho, h.hs⟩
/-- .. and another list, from base on, when the answer is stored. -/
theorem DX.fin {w wr : World} {c len cap N : Nat} {a : Option Addr} {R V : Nat} {ax : Option Addr} {n cx : Nat} {xs : List Int} {S K : Int} {base : Nat} (h : DX w wr c len cap N a R V ax n cx xs S K base) (hx : xs.length = n) (hcap : n ≤ cx) (hn : n ≤ 12) {a' : Option Addr} {m c' : Nat} {ls : List Int} (hl : ls.length = m) (hc' : m ≤ c') (hm : m ≤ 13) (r : ARow wr a' ls) (hlo : ∀ b off, a' = some ⟨b, off, none⟩ → base ≤ b) :
    DLPost w (.returned (.tuple #[.agg #[.slice ax n cx, .int .i64 S, .int .i64 K], .slice a' m c'])) (((wr.setCell ⟨R, 0, none⟩ (.slice ax n cx)).setCell ⟨R, 1, none⟩ (.int .i64 S)).setCell ⟨R, 2, none⟩ (.int .i64 K)) :=
  ⟨ax, n, cx, xs, S, K, a', m, c', ls, rfl, hx, hcap, hn, hl, hc', hm, set3_row h.rx (fun b off e => by have := h.hx b off e; omega), set3_row r (fun b off e => by have := hlo b off e; have := h.hR; omega), fun b off e => (h.hx b off e).1, fun b off e => by have := hlo b off e; have := h.hc; omega, set3_below (h.kp.below h.hc.1 (Nat.le_refl _)) h.hR.1⟩
/-- The trade is drawn into its variable. -/
theorem DX.new {w w0 w1 : World} {c len cap N : Nat} {a : Option Addr} {R : Nat} {ax : Option Addr} {cx : Nat} {xs : List Int} {S K : Int} (hb0 : Below w.heap.size w w0) (hR : RB w0 R) (hRw : w.heap.size ≤ R) (hRc : R ≠ c) (hcw : w.heap.size ≤ c ∧ c < w0.heap.size) (ho : ∀ b off, a = some ⟨b, off, none⟩ → 0 < len → b < w.heap.size) (own : w1.ownsRow w0.heap.size 3 1 (.slice ax xs.length cx) xs.length (ints xs)) (rx : ARow w1 ax xs) (hc1 : Cur w1 c a len cap N) (hk1 : Kp c w0 w1) :
    DX w (w1.alloc (.cells #[.slice ax xs.length cx, .int .i64 S, .int .i64 K] 25)) c len cap N a R w1.heap.size ax xs.length cx xs S K (w1.heap.size + 1) := by
  have hs := hk1.size
  have hs0 := hb0.size
  have hlt := hR.lt
  have hb := below_new w1 (.cells #[.slice ax xs.length cx, .int .i64 S, .int .i64 K] 25)
  refine ⟨(hR.kp hk1 hRc).below hb, TBox.new _ _ _ _ _, rx.below hb, hc1.below hb, ?_, ⟨hRw, by omega, hRc⟩, ⟨by omega, by omega, by omega⟩, fun b off e => ?_, ⟨hcw.1, by omega⟩, ho, by simp⟩
  · exact ((Kp.of_below hb0).trans hk1).trans (Kp.of_below hb)
  · have h1 := own_lo14 own b off e
    have h2 := (own.lt b (by subst e; rfl)).2
    omega
set_option maxRecDepth 100000 in
set_option maxHeartbeats 4000000 in
theorem drawLF_any {a : Option Addr} {len cap : Nat} {w : World} (hs : Hid (Src w a len)) :
    Calls Try.prog 18 #[.slice a len cap] w fun e w' => DLPost w e w' := by
  have hb0 := below_new w (.cells #[.slice none 0 0, .int .i64 0, .int .i64 0] 25)
  have HC := hide (cur_new (cap := cap) (hs.out.below hb0))
  have hbc := below_new (w.alloc (.cells #[.slice none 0 0, .int .i64 0, .int .i64 0] 25)) (.cells #[.slice a len cap, .int .i64 0, .int .u64 0] 45)
  have HR := hide ((RB.new w).below hbc)
  have HB := hide (hb0.trans (hbc.mono hb0.size))
  have HS := hide hs.out.2
  rw [World.size_alloc] at HC
  obtain ⟨c, hc⟩ : ∃ c, c = w.heap.size + 1 := ⟨_, rfl⟩
  obtain ⟨R, hR⟩ : ∃ R, R = w.heap.size := ⟨_, rfl⟩
  rw [← hc] at HC
  rw [← hR] at HR
  have hRc : R ≠ c := by omega
  have HRw := hide (show w.heap.size ≤ R ∧ w.heap.size ≤ c by omega)
  have zz : c < ((w.alloc (.cells #[.slice none 0 0, .int .i64 0, .int .i64 0] 25)).alloc (.cells #[.slice a len cap, .int .i64 0, .int .u64 0] 45)).heap.size := by simp; omega
  obtain ⟨w0, hw0⟩ : ∃ W, W = (w.alloc (.cells #[.slice none 0 0, .int .i64 0, .int .i64 0] 25)).alloc (.cells #[.slice a len cap, .int .i64 0, .int .u64 0] 45) := ⟨_, rfl⟩
  rw [← hw0] at HC HR HB zz
  have HW0 := hide hw0.symm
  have HCe := hide hc.symm
  have HRe := hide hR.symm
  clear hb0 hbc hw0 hc hR
  go_enter Try.func18, Try.ntmps18
  go_upto_region 2 with fail
  rw [HW0.out, HCe.out, HRe.out]
  clear HW0 HCe HRe
  go_wp2_with fail
  refine (drawT_any HC.out (by omega)).mono ?_
  rintro e w1 ⟨v, xs, S, K, rfl, hl, own1, hc1, hk1⟩
  obtain ⟨ax, cx, ex, hcap, rx⟩ := own_cap rfl own1
  subst ex
  have HD := hide (DX.new (S := S) (K := K) HB.out HR.out HRw.out.1 hRc ⟨HRw.out.2, zz⟩ HS.out own1 rx hc1 hk1)
  obtain ⟨n, hn⟩ : ∃ n, xs.length = n := ⟨_, rfl⟩
  rw [hn] at HD hl hcap
  obtain ⟨V, hV⟩ : ∃ V, V = w1.heap.size := ⟨_, rfl⟩
  obtain ⟨w2, hw2⟩ : ∃ W, W = w1.alloc (.cells #[.slice ax n cx, .int .i64 S, .int .i64 K] 25) := ⟨_, rfl⟩
  rw [← hw2, ← hV] at HD
  have HW2 := hide hw2.symm
  have HVe := hide hV.symm
  have HX := hide hn
  have hz2 : w2.heap.size = V + 1 := by rw [hw2, hV]; simp
  have HZ2 := hide hz2
  rw [hn]
  clear own1 hc1 hk1 rx hw2 hV HR HB HC hn hz2
  go_upto_region 3 with fail
  rw [HW2.out, HVe.out]
  clear HW2 HVe
  have HLIT := hide (show (w2.alloc (.cells #[.int .i64 0] 3)).ownsRow w2.heap.size 3 1 (.slice (some ⟨w2.heap.size, 0, none⟩) 1 1) 1 (ints [0]) from by
    have h := World.ownsRow_lit (base := w2.heap.size) (e := 3) (size := 1) w2 #[.int .i64 0] 1 (Nat.le_refl _) (by unfold maxLen; omega) (by simp)
    exact h)
  have HD0 := hide (HD.out.below (below_alloc w2 (.cells #[.int .i64 0] 3)))
  rw [← HZ2.out] at HD0
  go_wp2_with fail
  go_loopw [6, 7] (fun s6 s7 wr => ∃ (k : Nat) (ds : List Int), s7 = .int .i64 k ∧ 1 ≤ k ∧ k ≤ 13 ∧ 1 ≤ ds.length ∧ ds.length ≤ k ∧ Hid (wr.ownsRow w2.heap.size 3 1 s6 ds.length (ints ds)) ∧ Hid (DX w wr c len cap (0 + 50 + 2 * k) a R V ax n cx xs S K w2.heap.size)) (fun _ s7 _ => 14 - (intOf s7).toNat)
  case atStart => exact ⟨1, [0], rfl, Nat.le_refl _, by omega, by simp, by simp, HLIT, hide (HD0.out.le (by omega))⟩
  case round =>
    clear HLIT HD0 HD
    obtain ⟨k, ds, rfl, hk1, hk13, hd1, hdk, HO, HD⟩ := hrel
    obtain ⟨t0, t1, t2, _⟩ := HD.out.tv
    obtain ⟨g, cg, eg, hg0, hg1⟩ := own_some HO.out (by omega)
    subst eg
    by_cases hlt : k < n
    · have i1 : (k : Int) < (n : Int) := by omega
      go_wp2_with fail
      refine (one_any 2 (by omega) HD.out.cur (by omega)).mono ?_
      rintro e w5 ⟨r5, rfl, hc5, hk5⟩
      have HD5 := hide (HD.out.step hk5 hc5)
      have HO5 := hide (own_kp HO.out hk5 HD.out.hc.2)
      clear hc5 hk5 t0 t1 t2
      cases r5
      · obtain ⟨t0, t1, t2, _⟩ := HD5.out.tv
        go_wp2_with fail
        go_roundw
        case rel => exact ⟨k + 1, ds, by go_num, by omega, by omega, hd1, by omega, HO5, hide (HD5.out.le (by omega))⟩
        case measure => simp only [intOf]; omega
      · obtain ⟨v', w6, hr6, own6, hg6⟩ := push_int (x := (k : Int)) HO5.out (by omega) HD5.out.hs
        have HO6 : Hid (w6.ownsRow w2.heap.size 3 1 v' (ds ++ [(k : Int)]).length (ints (ds ++ [(k : Int)]))) := hide (by rw [List.length_append, ints_snoc]; exact own6)
        have HD6 := hide (HD5.out.low (grown_under' hg6 HO5.out (Nat.le_refl _) HD5.out.hs))
        clear own6 hg6 HO5 HD5
        go_wp2_with (first | (at_builtin; refine Lib.wpList_append_run _ rfl _ _ _ _ rfl _ _ rfl rfl _ _ (hr6 _) ?_))
        go_roundw
        case rel => exact ⟨k + 1, ds ++ [(k : Int)], by go_num, by omega, by omega, by simp, by simp; omega, HO6, hide (HD6.out.le (by omega))⟩
        case measure => simp only [intOf]; omega
    · have i1 : ¬ (k : Int) < (n : Int) := by omega
      obtain ⟨m, hm⟩ : ∃ m, ds.length = m := ⟨_, rfl⟩
      rw [hm] at HO hd1 hdk
      rw [hm]
      have HM := hide hm
      obtain ⟨ag, cg', eg', hcg, rg⟩ := own_cap hm HO.out
      cases eg'
      have HCG := hide hcg
      clear hm rg
      go_wp2_with fail
      refine (one_any 20 (by omega) HD.out.cur (by omega)).mono ?_
      rintro e w5 ⟨r5, rfl, hc5, hk5⟩
      have HD5 := hide (HD.out.step hk5 hc5)
      have HO5 := hide (own_kp HO.out hk5 HD.out.hc.2)
      clear hc5 hk5 t0 t1 t2
      obtain ⟨t0, t1, t2, _⟩ := HD5.out.tv
      have m0 : (0 : Int) < (m : Int) := by omega
      cases r5
      · have x0 := HD5.out.rb.r0
        have x1 := HD5.out.rb.r1
        have x2 := HD5.out.rb.r2
        have y0 := HD5.out.rb.rf 0
        have y1 := HD5.out.rb.rf 1
        have y2 := HD5.out.rb.rf 2
        have HF := hide (HD5.out.fin HX.out hcap hl HM.out hcg (by omega) (arow_owns HM.out.symm HO5.out) (fun b off e => by cases e; exact hg0))
        go_wp2_with fail
        refine bodyPost_ret (v := .tuple #[.agg #[.slice ax n cx, .int .i64 S, .int .i64 K], .slice (some ⟨g, 0, none⟩) m cg]) ?_ ?_ ?_
        · simp [results, Try.results18, go_sem, *]
        · rfl
        · exact HF.out
      · go_wp2_with fail
        refine (pick_any 2 (by omega) HD5.out.cur (by omega)).mono ?_
        rintro e w6 ⟨r6, rfl, _, _, hc6, hk6⟩
        have HD6 := hide (HD5.out.step hk6 hc6)
        have own6 := own_kp HO5.out hk6 HD5.out.hc.2
        have q1 : w6.cell? ⟨g, 0, none⟩ = some (.int .i64 (ds.getD 0 0)) := by rw [own6.cellAt 0 (by omega), ints_get ds 0 (by rw [HM.out]; omega)]
        have q2 := own6.frozenAt 0
        obtain ⟨st1, _⟩ := own6.stored 0 (.int .i64 r6)
        rw [ints_set] at st1
        obtain ⟨w7, hw7⟩ : ∃ W, W = w6.setCell ⟨g, 0, none⟩ (.int .i64 r6) := ⟨_, rfl⟩
        have HD7 : Hid (DX w w7 c len cap (0 + 50 + 2 * k + 2 + 2) a R V ax n cx xs S K w2.heap.size) := hide (by rw [hw7]; exact HD6.out.low ((Below.refl _ _).setCell (p := ⟨g, 0, none⟩) hg0 _))
        rw [← hw7] at st1
        have HST := hide st1
        have HW7 := hide hw7.symm
        clear own6 st1 hc6 hk6 hw7 HO5 HD6 t0 t1 t2
        go_upto_region 11 with fail
        rw [HW7.out]
        clear HW7 q1 q2
        obtain ⟨t0, t1, t2, _⟩ := HD7.out.tv
        have x0 := HD7.out.rb.r0
        have x1 := HD7.out.rb.r1
        have x2 := HD7.out.rb.r2
        have y0 := HD7.out.rb.rf 0
        have y1 := HD7.out.rb.rf 1
        have y2 := HD7.out.rb.rf 2
        have HF := hide (HD7.out.fin HX.out hcap hl (ls := ds.set 0 r6) (by rw [List.length_set]; exact HM.out) hcg (by omega) (arow_owns (by rw [List.length_set, HM.out]) HST.out) (fun b off e => by cases e; exact hg0))
        go_wp2_with fail
        refine bodyPost_ret (v := .tuple #[.agg #[.slice ax n cx, .int .i64 S, .int .i64 K], .slice (some ⟨g, 0, none⟩) m cg]) ?_ ?_ ?_
        · simp [results, Try.results18, go_sem, *]
        · rfl
        · exact HF.out
end Go.Proofs.Ytebohpgdhbammaa
namespace Go.Proofs.Ytebohpgdhbammaa
open Go.RowKit

theorem av_own14 {w : World} {lo hi n : Nat} {v : Value} {xs : List Int} (h : AV w lo hi v n xs) (hx : xs.length = n) : ∃ a c, v = .slice a n c ∧ n ≤ c ∧ ARow w a xs ∧ w.ownsRow lo 3 1 (.slice a n c) n (ints xs) := by
  obtain ⟨a, c, e, h1, h2⟩ := own_cap hx h.1
  subst e
  exact ⟨a, c, rfl, h1, h2, h.1⟩
set_option maxRecDepth 20000 in
set_option maxHeartbeats 8000000 in
theorem drawLC_any {a : Option Addr} {len cap : Nat} {w : World} (hs : Hid (Src w a len)) :
    Calls Try.prog 5 #[.slice a len cap] w fun e w' => DLPost w e w' := by
  have hb0 := below_new w (.cells #[.slice none 0 0, .int .i64 0, .int .i64 0] 25)
  have HC := hide (cur_new (cap := cap) (hs.out.below hb0))
  have hbc := below_new (w.alloc (.cells #[.slice none 0 0, .int .i64 0, .int .i64 0] 25)) (.cells #[.slice a len cap, .int .i64 0, .int .u64 0] 45)
  have HR := hide ((RB.new w).below hbc)
  have HB := hide (hb0.trans (hbc.mono hb0.size))
  have HS := hide hs.out.2
  rw [World.size_alloc] at HC
  obtain ⟨c, hc⟩ : ∃ c, c = w.heap.size + 1 := ⟨_, rfl⟩
  obtain ⟨R, hR⟩ : ∃ R, R = w.heap.size := ⟨_, rfl⟩
  rw [← hc] at HC
  rw [← hR] at HR
  have hRc : R ≠ c := by omega
  have HRw := hide (show w.heap.size ≤ R ∧ w.heap.size ≤ c by omega)
  have zz : c < ((w.alloc (.cells #[.slice none 0 0, .int .i64 0, .int .i64 0] 25)).alloc (.cells #[.slice a len cap, .int .i64 0, .int .u64 0] 45)).heap.size := by simp; omega
  obtain ⟨w0, hw0⟩ : ∃ W, W = (w.alloc (.cells #[.slice none 0 0, .int .i64 0, .int .i64 0] 25)).alloc (.cells #[.slice a len cap, .int .i64 0, .int .u64 0] 45) := ⟨_, rfl⟩
  rw [← hw0] at HC HR HB zz
  have HW0 := hide hw0.symm
  have HCe := hide hc.symm
  have HRe := hide hR.symm
  clear hb0 hbc hw0 hc hR
  go_enter Try.func5, Try.ntmps5
  go_upto_region 2 with fail
  rw [HW0.out, HCe.out, HRe.out]
  clear HW0 HCe HRe
  go_wp2_with fail
  refine (drawT_any HC.out (by omega)).mono ?_
  rintro e w1 ⟨v, xs, S, K, rfl, hl, own1, hc1, hk1⟩
  obtain ⟨ax, cx, ex, hcapx, rx⟩ := own_cap rfl own1
  subst ex
  have HD := hide (DX.new (S := S) (K := K) HB.out HR.out HRw.out.1 hRc ⟨HRw.out.2, zz⟩ HS.out own1 rx hc1 hk1)
  obtain ⟨n, hn⟩ : ∃ n, xs.length = n := ⟨_, rfl⟩
  rw [hn] at HD hl hcapx
  obtain ⟨V, hV⟩ : ∃ V, V = w1.heap.size := ⟨_, rfl⟩
  obtain ⟨w2, hw2⟩ : ∃ W, W = w1.alloc (.cells #[.slice ax n cx, .int .i64 S, .int .i64 K] 25) := ⟨_, rfl⟩
  rw [← hw2, ← hV] at HD
  have HW2 := hide hw2.symm
  have HVe := hide hV.symm
  have HX := hide hn
  have hz2 : V + 1 = w2.heap.size := by rw [hw2, hV]; simp
  rw [hn]
  rw [hz2] at HD
  clear own1 hc1 hk1 rx hw2 hV HR HB HC hn hz2
  go_upto_region 3 with fail
  rw [HW2.out, HVe.out]
  clear HW2 HVe
  obtain ⟨t0, t1, t2, _⟩ := HD.out.tv
  go_wp2_with fail
  refine (sed_v (S := S) (K := K) (c := cx) HX (hide HD.out.rx)).mono ?_
  rintro e w3 ⟨v6, rfl, hb3, o6⟩
  have HD3 := hide (HD.out.below hb3)
  have O6 := hide o6
  clear t0 t1 t2 o6 HD
  obtain ⟨t0, t1, t2, _⟩ := HD3.out.tv
  have hz3 := hb3.size
  clear hb3
  go_wp2_with fail
  refine (sbl_w (S := S) (K := K) (c := cx) HX (hide HD3.out.rx)).mono ?_
  rintro e w4 ⟨v8, rfl, hb4, o8⟩
  have HD4 := hide (HD3.out.below hb4)
  have O6b := hide (O6.out.below hb4)
  have O8 := hide o8
  clear t0 t1 t2 o8 HD3 O6 hb4
  have hl6 := Lo.edL_le (nd := xs) (S := S) (K := K)
  have hl8 := Lo.blL_le (nd := xs) (S := S) (K := K)
  have hpos : Lo.goodB xs S K = true → 1 ≤ (Lo.edL xs S K).length ∧ 1 ≤ (Lo.blL xs S K).length := fun hg => by
    have g := Lo.good_of hg
    exact ⟨by rw [Lo.edL, if_pos hg]; exact g.n1, by rw [Lo.blL, if_pos hg, Lo.lots_len]; exact g.n1⟩
  have HPos := hide hpos
  obtain ⟨a6, c6, e6, h6c, r6, own6⟩ := av_own14 O6b.out rfl
  obtain ⟨a8, c8, e8, h8c, r8, own8⟩ := av_own14 O8.out rfl
  subst e6
  subst e8
  have R6 := hide own6
  have R8 := hide (owns_low own8 hz3)
  clear r6 r8 own6 own8 O6b O8 hpos
  generalize Lo.edL xs S K = L6 at *
  generalize Lo.blL xs S K = L8 at *
  cases hg : Lo.goodB xs S K
  · have hm6 : L6.length ≤ 13 := by omega
    obtain ⟨m, hm⟩ : ∃ m, L6.length = m := ⟨_, rfl⟩
    have HM := hide hm
    rw [hm] at R6 h6c hm6
    rw [hm]
    obtain ⟨t0, t1, t2, _⟩ := HD4.out.tv
    have x0 := HD4.out.rb.r0
    have x1 := HD4.out.rb.r1
    have x2 := HD4.out.rb.r2
    have y0 := HD4.out.rb.rf 0
    have y1 := HD4.out.rb.rf 1
    have y2 := HD4.out.rb.rf 2
    have HF := hide (HD4.out.fin HX.out hcapx hl HM.out h6c hm6 ((av_own14 (AV.new R6.out) HM.out).elim fun a' h => h.elim fun c' h => by obtain ⟨e, _, r, _⟩ := h; cases e; exact r) (own_lo14 R6.out))
    clear hg hm HPos hl6 hl8 R8 h8c
    go_wp2_with fail
    refine bodyPost_ret (v := .tuple #[.agg #[.slice ax n cx, .int .i64 S, .int .i64 K], .slice a6 m c6]) ?_ ?_ ?_
    · simp [results, Try.results5, go_sem, *]
    · rfl
    · exact HF.out
  · obtain ⟨hp6, hp8⟩ := HPos.out hg
    clear HPos hg
    go_upto_if 31 with (go_at_call 26; refine (one_any 2 (by omega) HD4.out.cur (by omega)).mono ?_; rintro e w5 ⟨r5, rfl, hc5, hk5⟩; have HD5 := hide (HD4.out.step hk5 hc5); have R65 := hide (own_kp R6.out hk5 HD4.out.hc.2); have R85 := hide (own_kp R8.out hk5 HD4.out.hc.2); clear hc5 hk5)
    go_cut [6] (fun s6 wc => ∃ (g m cp : Nat) (ls : List Int), s6 = .slice (some ⟨g, 0, none⟩) m cp ∧ 1 ≤ m ∧ m ≤ 10 ∧ m ≤ cp ∧ ls.length = m ∧ Hid (wc.ownsRow w2.heap.size 3 1 (.slice (some ⟨g, 0, none⟩) m cp) m (ints ls)) ∧ Hid (DX w wc c len cap 60 a R V ax n cx xs S K w2.heap.size))
    case first =>
      cases r5
      · obtain ⟨g, cp, eg, _, _⟩ := own_some R65.out (by omega)
        cases eg
        go_wp2_with fail
        go_meet
        case rel => exact ⟨g, _, c6, L6, rfl, hp6, hl6, h6c, rfl, R65, hide (HD5.out.le (by omega))⟩
      · obtain ⟨g, cp, eg, _, _⟩ := own_some R85.out (by omega)
        cases eg
        go_wp2_with fail
        go_meet
        case rel => exact ⟨g, _, c8, L8, rfl, hp8, hl8, h8c, rfl, R85, hide (HD5.out.le (by omega))⟩
    case rest =>
      obtain ⟨g, m, cp, ls, rfl, hm1, hm10, hcap, hll, HO, HDc⟩ := hcut
      clear HD5 R65 R85 HD4 R6 R8 h6c h8c hl6 hl8 hp6 hp8
      have hm0 : (0 : Int) < (m : Int) := by omega
      go_upto_if 42 with (go_at_call 26; refine (one_any 2 (by omega) HDc.out.cur (by omega)).mono ?_; rintro e w4 ⟨r4, rfl, hc4, hk4⟩; have HD4 := hide (HDc.out.step hk4 hc4); have HO4 := hide (own_kp HO.out hk4 HDc.out.hc.2); clear hc4 hk4)
      go_cut [6] (fun s6 wc => ∃ (g m cp : Nat) (ls : List Int), s6 = .slice (some ⟨g, 0, none⟩) m cp ∧ ls.length = m ∧ m ≤ 13 ∧ m ≤ cp ∧ w2.heap.size ≤ g ∧ Hid (ARow wc (some ⟨g, 0, none⟩) ls) ∧ Hid (DX w wc c len cap 70 a R V ax n cx xs S K w2.heap.size))
      case first =>
        have hgb : w2.heap.size ≤ g := (HO4.out.lt g rfl).1
        cases r4
        · go_wp2_with fail
          go_meet
          case rel => exact ⟨g, m, cp, ls, rfl, hll, by omega, hcap, hgb, hide (arow_owns hll.symm HO4.out), hide (HD4.out.le (by omega))⟩
        · have hcg : c < w2.heap.size := HD4.out.hc.2
          have HOd := hide HO4.out.drew
          have HDd := hide (HD4.out.below (w2 := w4.drew) (Below.refl _ _).drew)
          have HOa : Hid ((w4.alloc (.cells #[.int .i64 0, .int .i64 1, .int .i64 5, .int .i64 (-1), .int .i64 200] 3)).drew.ownsRow w2.heap.size 3 1 (.slice (some ⟨g, 0, none⟩) m cp) m (ints ls)) := hide (own_below HO4.out (below_alloc w4 _)).drew
          have HDa : Hid (DX w (w4.alloc (.cells #[.int .i64 0, .int .i64 1, .int .i64 5, .int .i64 (-1), .int .i64 200] 3)).drew c len cap 62 a R V ax n cx xs S K w2.heap.size) := hide (HD4.out.below (below_alloc w4 _).drew)
          have hbl : w4.heap.size < (w4.alloc (.cells #[.int .i64 0, .int .i64 1, .int .i64 5, .int .i64 (-1), .int .i64 200] 3)).drew.heap.size := by show w4.heap.size < (w4.alloc (.cells #[.int .i64 0, .int .i64 1, .int .i64 5, .int .i64 (-1), .int .i64 200] 3)).heap.size; simp
          have hbc : w4.heap.size ≠ c := by have := HD4.out.hc.2; have := HD4.out.hs; omega
          go_wp2_with fail
          refine wp_region_noPanic ?_
          refine wp_region_held_drew (S := fun _ => True) (by kernel_rfl) trivial (fun hHeld => ?_)
          refine wpAnyH_take (i := 0) (oi := ⟨some 43, _, _, _, _, none⟩) (v := .slice (some ⟨g, 0, none⟩) m cp) rfl (by kernel_rfl) (by kernel_rfl) (by kernel_rfl) (fun _ _ _ h => h) (Or.inl ⟨by rfl, fun w' hSw => by clear hSw; go_simp⟩) hHeld ?_
          simp only [Act.put, List.setIfInBounds_toArray, List.set_cons_zero, List.set_cons_succ]
          refine wpAnyH_take (i := 1) (oi := ⟨some 44, _, _, _, _, none⟩) (v := .pointer (some ⟨c, 0, none⟩)) rfl (by kernel_rfl) (by kernel_rfl) (by kernel_rfl) (fun _ _ _ h => h) (Or.inl ⟨by rfl, fun w' hSw => by clear hSw; go_simp⟩) hHeld ?_
          simp only [Act.put, List.setIfInBounds_toArray, List.set_cons_zero, List.set_cons_succ]
          refine wpAnyH_take (i := 2) (oi := ⟨some 45, _, _, _, _, none⟩) (v := .slice (some ⟨g, 0, none⟩) m cp) rfl (by kernel_rfl) (by kernel_rfl) (by kernel_rfl) (fun _ _ _ h => h) (Or.inl ⟨by rfl, fun w' hSw => by clear hSw; go_simp⟩) hHeld ?_
          simp only [Act.put, List.setIfInBounds_toArray, List.set_cons_zero, List.set_cons_succ]
          refine wpAnyH_take (i := 3) (oi := ⟨some 46, _, _, _, _, none⟩) (v := .int .i64 (m : Int)) rfl (by kernel_rfl) (by kernel_rfl) (by kernel_rfl) (fun _ _ _ h => h) (Or.inl ⟨by rfl, fun w' hSw => by clear hSw; go_simp⟩) hHeld ?_
          simp only [Act.put, List.setIfInBounds_toArray, List.set_cons_zero, List.set_cons_succ]
          refine wpAnyH_take (i := 7) (oi := ⟨some 50, _, _, _, _, none⟩) (v := .pointer (some ⟨c, 0, none⟩)) rfl (by kernel_rfl) (by kernel_rfl) (by kernel_rfl) (fun _ _ _ h => h) (Or.inl ⟨by rfl, fun w' hSw => by clear hSw; go_simp⟩) hHeld ?_
          simp only [Act.put, List.setIfInBounds_toArray, List.set_cons_zero, List.set_cons_succ]
          refine wpAnyH_ready (rs := [4, 8]) (by kernel_rfl) (by simp) ?_
          refine AllReadyH.cons (o := ⟨some 47, _, _, _, _, none⟩) rfl (fun K hK => ?_) (AllReadyH.cons (o := ⟨some 51, _, _, _, _, none⟩) rfl (fun K hK => ?_) AllReadyH.nil)
          · go_simp
            refine (pick_any (m : Int) (by omega) HDd.out.cur (by omega)).mono ?_
            rintro e w6 ⟨r6, rfl, q0, q1, hc6, hk6⟩
            obtain ⟨i, rfl⟩ := Int.eq_ofNat_of_zero_le q0
            have hi : i < m := by omega
            have i0 : (0 : Int) ≤ (i : Int) := by omega
            have i1 : (i : Int) < (m : Int) := by omega
            have HO6 := hide (own_kp HOd.out hk6 hcg)
            obtain ⟨y, hy⟩ : ∃ y, ls.getD i 0 = y := ⟨_, rfl⟩
            have HYi := hide hy
            have c6 : w6.cell? ⟨g, i, none⟩ = some (.int .i64 y) := by rw [← hy]; rw [HO6.out.cellAt i (by omega), ints_get ls i (by rw [hll]; exact hi)]
            have hg6 : g < w6.heap.size := (HO6.out.lt g rfl).2
            have ca6 : ∀ o : Obj, (w6.alloc o).cell? ⟨g, i, none⟩ = some (.int .i64 y) := fun o => ((below_new w6 o).cell (p := ⟨g, i, none⟩) hg6).trans c6
            have HD6 := hide (HDd.out.step hk6 hc6)
            clear hc6 hk6 q0 q1 hy
            refine hK.out _ _ trivial (fun hHeld => ?_)
            clear hK K
            refine wpAnyH_take (i := 5) (oi := ⟨some 48, _, _, _, _, none⟩) (v := .pointer (some ⟨g, i, none⟩)) rfl (by kernel_rfl) (by kernel_rfl) (by kernel_rfl) (fun _ _ _ h => h) (Or.inl ⟨by rfl, fun w' hSw => by clear hSw; go_simp⟩) hHeld ?_
            simp only [Act.put, List.setIfInBounds_toArray, List.set_cons_zero, List.set_cons_succ]
            refine wpAnyH_ready (rs := [6, 8]) (by kernel_rfl) (by simp) ?_
            refine AllReadyH.cons (o := ⟨some 49, _, _, _, _, none⟩) rfl (fun K hK => ?_) (AllReadyH.cons (o := ⟨some 51, _, _, _, _, none⟩) rfl (fun K hK => ?_) AllReadyH.nil)
            · go_simp
              refine hK.out _ _ trivial (fun hHeld => ?_)
              clear hK K
              refine wpAnyH_ready (rs := [8]) (by kernel_rfl) (by simp) ?_
              refine AllReadyH.cons (o := ⟨some 51, _, _, _, _, none⟩) rfl (fun K hK => ?_) AllReadyH.nil
              go_simp
              refine hK.out _ _ trivial (fun hHeld => ?_)
              clear hK K
              refine wpAnyH_ready (rs := [9]) (by kernel_rfl) (by simp) ?_
              refine AllReadyH.cons (o := ⟨some 52, _, _, _, _, none⟩) rfl (fun K hK => ?_) AllReadyH.nil
              go_simp
              have hb6 : w6.heap.size ≠ c := by have := HD6.out.cur.1; omega
              refine (among_any (HD6.out.cur.below (below_alloc w6 _)) (by omega) (by omega) (by omega) (by simp) hb6 (five14 w6 0 1 5 (-1) 200)).mono ?_
              rintro e w7 ⟨r7, rfl, hc7, hk7⟩
              have HO7 := hide (own_kp (own_below HO6.out (below_alloc w6 _)) hk7 hcg)
              have HD7 := hide ((HD6.out.below (below_alloc w6 _)).step hk7 hc7)
              have c7 : w7.cell? ⟨g, i, none⟩ = some (.int .i64 y) := by rw [← HYi.out]; rw [HO7.out.cellAt i (by omega), ints_get ls i (by rw [hll]; exact hi)]
              have f7 := HO7.out.frozenAt i
              clear hc7 hk7
              refine hK.out _ _ trivial (fun hHeld => ?_)
              clear hK K
              refine wpAnyH_take (i := 10) (oi := ⟨some 53, _, _, _, _, none⟩) (v := .int .i64 (IntKind.i64.wrap (y + r7))) rfl (by kernel_rfl) (by kernel_rfl) (by kernel_rfl) (fun _ _ _ h => h) (Or.inl ⟨by rfl, fun w' hSw => by clear hSw; go_simp⟩) hHeld ?_
              simp only [Act.put, List.setIfInBounds_toArray, List.set_cons_zero, List.set_cons_succ]
              refine wpAnyH_take (i := 11) (oi := ⟨some 54, _, _, _, _, none⟩) (v := .pointer (some ⟨g, i, none⟩)) rfl (by kernel_rfl) (by kernel_rfl) (by kernel_rfl) (fun _ _ _ h => h) (Or.inl ⟨by rfl, fun w' hSw => by clear hSw; go_simp⟩) hHeld ?_
              simp only [Act.put, List.setIfInBounds_toArray, List.set_cons_zero, List.set_cons_succ]
              refine wpAnyH_ready (rs := [12]) (by kernel_rfl) (by simp) ?_
              refine AllReadyH.cons (o := ⟨none, _, _, _, _, none⟩) rfl (fun K hK => ?_) AllReadyH.nil
              go_simp
              refine hK.out _ _ trivial (fun hHeld => ?_)
              clear hK K
              refine wpAnyH_done (by kernel_rfl) ?_ _
              refine NoPanic.normal ?_
              clear hHeld
              go_wp2_with fail
              go_meet
              case rel =>
                obtain ⟨st1, _⟩ := HO7.out.stored i (.int .i64 (IntKind.i64.wrap (y + r7)))
                rw [ints_set] at st1
                exact ⟨g, m, cp, ls.set i (IntKind.i64.wrap (y + r7)), rfl, by rw [List.length_set]; exact hll, by omega, hcap, hgb, hide (arow_owns (by rw [List.length_set, hll]) st1), hide ((HD7.out.low ((Below.refl _ _).setCell (p := ⟨g, i, none⟩) hgb _)).le (by omega))⟩
            · go_simp
              refine hK.out _ _ trivial (fun hHeld => ?_)
              clear hK K
              refine wpAnyH_ready (rs := [6, 9]) (by kernel_rfl) (by simp) ?_
              refine AllReadyH.cons (o := ⟨some 49, _, _, _, _, none⟩) rfl (fun K hK => ?_) (AllReadyH.cons (o := ⟨some 52, _, _, _, _, none⟩) rfl (fun K hK => ?_) AllReadyH.nil)
              · go_simp
                refine hK.out _ _ trivial (fun hHeld => ?_)
                clear hK K
                refine wpAnyH_ready (rs := [9]) (by kernel_rfl) (by simp) ?_
                refine AllReadyH.cons (o := ⟨some 52, _, _, _, _, none⟩) rfl (fun K hK => ?_) AllReadyH.nil
                go_simp
                have hb6 : w6.heap.size ≠ c := by have := HD6.out.cur.1; omega
                refine (among_any (HD6.out.cur.below (below_alloc w6 _)) (by omega) (by omega) (by omega) (by simp) hb6 (five14 w6 0 1 5 (-1) 200)).mono ?_
                rintro e w7 ⟨r7, rfl, hc7, hk7⟩
                have HO7 := hide (own_kp (own_below HO6.out (below_alloc w6 _)) hk7 hcg)
                have HD7 := hide ((HD6.out.below (below_alloc w6 _)).step hk7 hc7)
                have c7 : w7.cell? ⟨g, i, none⟩ = some (.int .i64 y) := by rw [← HYi.out]; rw [HO7.out.cellAt i (by omega), ints_get ls i (by rw [hll]; exact hi)]
                have f7 := HO7.out.frozenAt i
                clear hc7 hk7
                refine hK.out _ _ trivial (fun hHeld => ?_)
                clear hK K
                refine wpAnyH_take (i := 10) (oi := ⟨some 53, _, _, _, _, none⟩) (v := .int .i64 (IntKind.i64.wrap (y + r7))) rfl (by kernel_rfl) (by kernel_rfl) (by kernel_rfl) (fun _ _ _ h => h) (Or.inl ⟨by rfl, fun w' hSw => by clear hSw; go_simp⟩) hHeld ?_
                simp only [Act.put, List.setIfInBounds_toArray, List.set_cons_zero, List.set_cons_succ]
                refine wpAnyH_take (i := 11) (oi := ⟨some 54, _, _, _, _, none⟩) (v := .pointer (some ⟨g, i, none⟩)) rfl (by kernel_rfl) (by kernel_rfl) (by kernel_rfl) (fun _ _ _ h => h) (Or.inl ⟨by rfl, fun w' hSw => by clear hSw; go_simp⟩) hHeld ?_
                simp only [Act.put, List.setIfInBounds_toArray, List.set_cons_zero, List.set_cons_succ]
                refine wpAnyH_ready (rs := [12]) (by kernel_rfl) (by simp) ?_
                refine AllReadyH.cons (o := ⟨none, _, _, _, _, none⟩) rfl (fun K hK => ?_) AllReadyH.nil
                go_simp
                refine hK.out _ _ trivial (fun hHeld => ?_)
                clear hK K
                refine wpAnyH_done (by kernel_rfl) ?_ _
                refine NoPanic.normal ?_
                clear hHeld
                go_wp2_with fail
                go_meet
                case rel =>
                  obtain ⟨st1, _⟩ := HO7.out.stored i (.int .i64 (IntKind.i64.wrap (y + r7)))
                  rw [ints_set] at st1
                  exact ⟨g, m, cp, ls.set i (IntKind.i64.wrap (y + r7)), rfl, by rw [List.length_set]; exact hll, by omega, hcap, hgb, hide (arow_owns (by rw [List.length_set, hll]) st1), hide ((HD7.out.low ((Below.refl _ _).setCell (p := ⟨g, i, none⟩) hgb _)).le (by omega))⟩
              · go_simp
                have hb6 : w6.heap.size ≠ c := by have := HD6.out.cur.1; omega
                refine (among_any (HD6.out.cur.below (below_alloc w6 _)) (by omega) (by omega) (by omega) (by simp) hb6 (five14 w6 0 1 5 (-1) 200)).mono ?_
                rintro e w7 ⟨r7, rfl, hc7, hk7⟩
                have HO7 := hide (own_kp (own_below HO6.out (below_alloc w6 _)) hk7 hcg)
                have HD7 := hide ((HD6.out.below (below_alloc w6 _)).step hk7 hc7)
                have c7 : w7.cell? ⟨g, i, none⟩ = some (.int .i64 y) := by rw [← HYi.out]; rw [HO7.out.cellAt i (by omega), ints_get ls i (by rw [hll]; exact hi)]
                have f7 := HO7.out.frozenAt i
                clear hc7 hk7
                refine hK.out _ _ trivial (fun hHeld => ?_)
                clear hK K
                refine wpAnyH_ready (rs := [6]) (by kernel_rfl) (by simp) ?_
                refine AllReadyH.cons (o := ⟨some 49, _, _, _, _, none⟩) rfl (fun K hK => ?_) AllReadyH.nil
                go_simp
                refine hK.out _ _ trivial (fun hHeld => ?_)
                clear hK K
                refine wpAnyH_take (i := 10) (oi := ⟨some 53, _, _, _, _, none⟩) (v := .int .i64 (IntKind.i64.wrap (y + r7))) rfl (by kernel_rfl) (by kernel_rfl) (by kernel_rfl) (fun _ _ _ h => h) (Or.inl ⟨by rfl, fun w' hSw => by clear hSw; go_simp⟩) hHeld ?_
                simp only [Act.put, List.setIfInBounds_toArray, List.set_cons_zero, List.set_cons_succ]
                refine wpAnyH_take (i := 11) (oi := ⟨some 54, _, _, _, _, none⟩) (v := .pointer (some ⟨g, i, none⟩)) rfl (by kernel_rfl) (by kernel_rfl) (by kernel_rfl) (fun _ _ _ h => h) (Or.inl ⟨by rfl, fun w' hSw => by clear hSw; go_simp⟩) hHeld ?_
                simp only [Act.put, List.setIfInBounds_toArray, List.set_cons_zero, List.set_cons_succ]
                refine wpAnyH_ready (rs := [12]) (by kernel_rfl) (by simp) ?_
                refine AllReadyH.cons (o := ⟨none, _, _, _, _, none⟩) rfl (fun K hK => ?_) AllReadyH.nil
                go_simp
                refine hK.out _ _ trivial (fun hHeld => ?_)
                clear hK K
                refine wpAnyH_done (by kernel_rfl) ?_ _
                refine NoPanic.normal ?_
                clear hHeld
                go_wp2_with fail
                go_meet
                case rel =>
                  obtain ⟨st1, _⟩ := HO7.out.stored i (.int .i64 (IntKind.i64.wrap (y + r7)))
                  rw [ints_set] at st1
                  exact ⟨g, m, cp, ls.set i (IntKind.i64.wrap (y + r7)), rfl, by rw [List.length_set]; exact hll, by omega, hcap, hgb, hide (arow_owns (by rw [List.length_set, hll]) st1), hide ((HD7.out.low ((Below.refl _ _).setCell (p := ⟨g, i, none⟩) hgb _)).le (by omega))⟩
          · go_simp
            refine hK.out _ _ trivial (fun hHeld => ?_)
            clear hK K
            refine wpAnyH_ready (rs := [4]) (by kernel_rfl) (by simp) ?_
            refine AllReadyH.cons (o := ⟨some 47, _, _, _, _, none⟩) rfl (fun K hK => ?_) AllReadyH.nil
            go_simp
            refine (pick_any (m : Int) (by omega) HDa.out.cur (by omega)).mono ?_
            rintro e w6 ⟨r6, rfl, q0, q1, hc6, hk6⟩
            obtain ⟨i, rfl⟩ := Int.eq_ofNat_of_zero_le q0
            have hi : i < m := by omega
            have i0 : (0 : Int) ≤ (i : Int) := by omega
            have i1 : (i : Int) < (m : Int) := by omega
            have HO6 := hide (own_kp HOa.out hk6 hcg)
            obtain ⟨y, hy⟩ : ∃ y, ls.getD i 0 = y := ⟨_, rfl⟩
            have HYi := hide hy
            have c6 : w6.cell? ⟨g, i, none⟩ = some (.int .i64 y) := by rw [← hy]; rw [HO6.out.cellAt i (by omega), ints_get ls i (by rw [hll]; exact hi)]
            have hg6 : g < w6.heap.size := (HO6.out.lt g rfl).2
            have ca6 : ∀ o : Obj, (w6.alloc o).cell? ⟨g, i, none⟩ = some (.int .i64 y) := fun o => ((below_new w6 o).cell (p := ⟨g, i, none⟩) hg6).trans c6
            have HZ6 : Hid (∀ i, i < 5 → ∃ z : Int, w6.cell? ⟨w4.heap.size, i, none⟩ = some (.int .i64 z)) := hide fun j hj => by
              obtain ⟨z, hz⟩ := five14 w4 0 1 5 (-1) 200 j hj
              exact ⟨z, (hk6.cell (b := w4.heap.size) (o := j) hbl hbc).trans hz⟩
            have hbl6 : w4.heap.size < w6.heap.size := Nat.lt_of_lt_of_le hbl hk6.size
            have HD6 := hide (HDa.out.step hk6 hc6)
            clear hc6 hk6 q0 q1 hy
            refine hK.out _ _ trivial (fun hHeld => ?_)
            clear hK K
            refine wpAnyH_take (i := 5) (oi := ⟨some 48, _, _, _, _, none⟩) (v := .pointer (some ⟨g, i, none⟩)) rfl (by kernel_rfl) (by kernel_rfl) (by kernel_rfl) (fun _ _ _ h => h) (Or.inl ⟨by rfl, fun w' hSw => by clear hSw; go_simp⟩) hHeld ?_
            simp only [Act.put, List.setIfInBounds_toArray, List.set_cons_zero, List.set_cons_succ]
            refine wpAnyH_ready (rs := [6, 9]) (by kernel_rfl) (by simp) ?_
            refine AllReadyH.cons (o := ⟨some 49, _, _, _, _, none⟩) rfl (fun K hK => ?_) (AllReadyH.cons (o := ⟨some 52, _, _, _, _, none⟩) rfl (fun K hK => ?_) AllReadyH.nil)
            · go_simp
              refine hK.out _ _ trivial (fun hHeld => ?_)
              clear hK K
              refine wpAnyH_ready (rs := [9]) (by kernel_rfl) (by simp) ?_
              refine AllReadyH.cons (o := ⟨some 52, _, _, _, _, none⟩) rfl (fun K hK => ?_) AllReadyH.nil
              go_simp
              refine (among_any HD6.out.cur (by omega) (by omega) (by omega) hbl6 hbc HZ6.out).mono ?_
              rintro e w7 ⟨r7, rfl, hc7, hk7⟩
              have HO7 := hide (own_kp HO6.out hk7 hcg)
              have HD7 := hide (HD6.out.step hk7 hc7)
              have c7 : w7.cell? ⟨g, i, none⟩ = some (.int .i64 y) := by rw [← HYi.out]; rw [HO7.out.cellAt i (by omega), ints_get ls i (by rw [hll]; exact hi)]
              have f7 := HO7.out.frozenAt i
              clear hc7 hk7
              refine hK.out _ _ trivial (fun hHeld => ?_)
              clear hK K
              refine wpAnyH_take (i := 10) (oi := ⟨some 53, _, _, _, _, none⟩) (v := .int .i64 (IntKind.i64.wrap (y + r7))) rfl (by kernel_rfl) (by kernel_rfl) (by kernel_rfl) (fun _ _ _ h => h) (Or.inl ⟨by rfl, fun w' hSw => by clear hSw; go_simp⟩) hHeld ?_
              simp only [Act.put, List.setIfInBounds_toArray, List.set_cons_zero, List.set_cons_succ]
              refine wpAnyH_take (i := 11) (oi := ⟨some 54, _, _, _, _, none⟩) (v := .pointer (some ⟨g, i, none⟩)) rfl (by kernel_rfl) (by kernel_rfl) (by kernel_rfl) (fun _ _ _ h => h) (Or.inl ⟨by rfl, fun w' hSw => by clear hSw; go_simp⟩) hHeld ?_
              simp only [Act.put, List.setIfInBounds_toArray, List.set_cons_zero, List.set_cons_succ]
              refine wpAnyH_ready (rs := [12]) (by kernel_rfl) (by simp) ?_
              refine AllReadyH.cons (o := ⟨none, _, _, _, _, none⟩) rfl (fun K hK => ?_) AllReadyH.nil
              go_simp
              refine hK.out _ _ trivial (fun hHeld => ?_)
              clear hK K
              refine wpAnyH_done (by kernel_rfl) ?_ _
              refine NoPanic.normal ?_
              clear hHeld
              go_wp2_with fail
              go_meet
              case rel =>
                obtain ⟨st1, _⟩ := HO7.out.stored i (.int .i64 (IntKind.i64.wrap (y + r7)))
                rw [ints_set] at st1
                exact ⟨g, m, cp, ls.set i (IntKind.i64.wrap (y + r7)), rfl, by rw [List.length_set]; exact hll, by omega, hcap, hgb, hide (arow_owns (by rw [List.length_set, hll]) st1), hide ((HD7.out.low ((Below.refl _ _).setCell (p := ⟨g, i, none⟩) hgb _)).le (by omega))⟩
            · go_simp
              refine (among_any HD6.out.cur (by omega) (by omega) (by omega) hbl6 hbc HZ6.out).mono ?_
              rintro e w7 ⟨r7, rfl, hc7, hk7⟩
              have HO7 := hide (own_kp HO6.out hk7 hcg)
              have HD7 := hide (HD6.out.step hk7 hc7)
              have c7 : w7.cell? ⟨g, i, none⟩ = some (.int .i64 y) := by rw [← HYi.out]; rw [HO7.out.cellAt i (by omega), ints_get ls i (by rw [hll]; exact hi)]
              have f7 := HO7.out.frozenAt i
              clear hc7 hk7
              refine hK.out _ _ trivial (fun hHeld => ?_)
              clear hK K
              refine wpAnyH_ready (rs := [6]) (by kernel_rfl) (by simp) ?_
              refine AllReadyH.cons (o := ⟨some 49, _, _, _, _, none⟩) rfl (fun K hK => ?_) AllReadyH.nil
              go_simp
              refine hK.out _ _ trivial (fun hHeld => ?_)
              clear hK K
              refine wpAnyH_take (i := 10) (oi := ⟨some 53, _, _, _, _, none⟩) (v := .int .i64 (IntKind.i64.wrap (y + r7))) rfl (by kernel_rfl) (by kernel_rfl) (by kernel_rfl) (fun _ _ _ h => h) (Or.inl ⟨by rfl, fun w' hSw => by clear hSw; go_simp⟩) hHeld ?_
              simp only [Act.put, List.setIfInBounds_toArray, List.set_cons_zero, List.set_cons_succ]
              refine wpAnyH_take (i := 11) (oi := ⟨some 54, _, _, _, _, none⟩) (v := .pointer (some ⟨g, i, none⟩)) rfl (by kernel_rfl) (by kernel_rfl) (by kernel_rfl) (fun _ _ _ h => h) (Or.inl ⟨by rfl, fun w' hSw => by clear hSw; go_simp⟩) hHeld ?_
              simp only [Act.put, List.setIfInBounds_toArray, List.set_cons_zero, List.set_cons_succ]
              refine wpAnyH_ready (rs := [12]) (by kernel_rfl) (by simp) ?_
              refine AllReadyH.cons (o := ⟨none, _, _, _, _, none⟩) rfl (fun K hK => ?_) AllReadyH.nil
              go_simp
              refine hK.out _ _ trivial (fun hHeld => ?_)
              clear hK K
              refine wpAnyH_done (by kernel_rfl) ?_ _
              refine NoPanic.normal ?_
              clear hHeld
              go_wp2_with fail
              go_meet
              case rel =>
                obtain ⟨st1, _⟩ := HO7.out.stored i (.int .i64 (IntKind.i64.wrap (y + r7)))
                rw [ints_set] at st1
                exact ⟨g, m, cp, ls.set i (IntKind.i64.wrap (y + r7)), rfl, by rw [List.length_set]; exact hll, by omega, hcap, hgb, hide (arow_owns (by rw [List.length_set, hll]) st1), hide ((HD7.out.low ((Below.refl _ _).setCell (p := ⟨g, i, none⟩) hgb _)).le (by omega))⟩
      case rest =>
        obtain ⟨g, m, cp, ls, rfl, hll, hm13, hcp2, hgb, RL, HDz⟩ := hcut
        clear HDc HO HD4 HO4
        obtain ⟨t0, t1, t2, _⟩ := HDz.out.tv
        have x0 := HDz.out.rb.r0
        have x1 := HDz.out.rb.r1
        have x2 := HDz.out.rb.r2
        have y0 := HDz.out.rb.rf 0
        have y1 := HDz.out.rb.rf 1
        have y2 := HDz.out.rb.rf 2
        have HF := hide (HDz.out.fin HX.out hcapx hl hll hcp2 hm13 RL.out (fun b off e => by cases e; exact hgb))
        go_wp2_with fail
        refine bodyPost_ret (v := .tuple #[.agg #[.slice ax n cx, .int .i64 S, .int .i64 K], .slice (some ⟨g, 0, none⟩) m cp]) ?_ ?_ ?_
        · simp [results, Try.results5, go_sem, *]
        · rfl
        · exact HF.out
set_option maxRecDepth 100000 in
set_option maxHeartbeats 2000000 in
theorem drawIL_any {a : Option Addr} {len cap : Nat} {w : World} (hs : Hid (Src w a len)) :
    Calls Try.prog 16 #[.slice a len cap] w fun e w' => DLPost w e w' := by
  have hb0 := below_new w (.cells #[.slice none 0 0, .int .i64 0, .int .i64 0] 25)
  have HS := hide (hide (hs.out.below hb0))
  have HR := hide (RB.new w)
  have HB := hide hb0
  obtain ⟨R, hR⟩ : ∃ R, R = w.heap.size := ⟨_, rfl⟩
  rw [← hR] at HR
  have HRw := hide (show w.heap.size ≤ R by omega)
  obtain ⟨w0, hw0⟩ : ∃ W, W = w.alloc (.cells #[.slice none 0 0, .int .i64 0, .int .i64 0] 25) := ⟨_, rfl⟩
  rw [← hw0] at HS HR HB
  have HW0 := hide hw0.symm
  have HRe := hide hR.symm
  clear hb0 hw0 hR
  go_enter Try.func16, Try.ntmps16
  go_upto_region 1 with fail
  rw [HW0.out, HRe.out]
  clear HW0 HRe
  go_wp2_with fail
  refine (drawLC_any HS.out).mono ?_
  rintro e w1 ⟨ax, n, cx, xs, S, K, a2, m, c2, ls, rfl, hx, hcap, hl, hll, hc2, hm, rx, rl, hlo, hlo2, hb1⟩
  have HR1 := HR.out.below hb1
  have x0 := HR1.r0
  have x1 := HR1.r1
  have x2 := HR1.r2
  have y0 := HR1.rf 0
  have y1 := HR1.rf 1
  have y2 := HR1.rf 2
  have HX := hide hx
  have HL := hide hll
  have hlt := HR.out.lt
  have HLo := hide fun b off e => Nat.le_trans HB.out.size (hlo b off e)
  have HLo2 := hide fun b off e => Nat.le_trans HB.out.size (hlo2 b off e)
  have HRX := hide (set3_row (R := R) (v0 := .slice ax n cx) (v1 := .int .i64 S) (v2 := .int .i64 K) rx fun b off e => by have := hlo b off e; omega)
  have HRL := hide (set3_row (R := R) (v0 := .slice ax n cx) (v1 := .int .i64 S) (v2 := .int .i64 K) rl fun b off e => by have := hlo2 b off e; omega)
  have HBX := hide (set3_below (R := R) (v0 := .slice ax n cx) (v1 := .int .i64 S) (v2 := .int .i64 K) (HB.out.trans (hb1.mono HB.out.size)) HRw.out)
  clear hb1 rx hx hlo hlo2 HR1 rl hll
  go_wp2_with fail
  refine bodyPost_ret (v := .tuple #[.agg #[.slice ax n cx, .int .i64 S, .int .i64 K], .slice a2 m c2]) ?_ ?_ ?_
  · simp [results, Try.results16, go_sem, *]
  · rfl
  · exact ⟨_, _, _, xs, S, K, _, _, _, ls, rfl, HX.out, hcap, hl, HL.out, hc2, hm, HRX.out, HRL.out, HLo.out, HLo2.out, HBX.out⟩
end Go.Proofs.Ytebohpgdhbammaa
namespace Go.Proofs.Ytebohpgdhbammaa
namespace Lo
open Lt
def badAt (nd ls : List Int) (i : Nat) : Prop := 0 < fn ls i ∧ 0 < left (fn nd) (fn ls) i
theorem bad_zero (nd ls : List Int) : ¬ badAt nd ls 0 := fun h => by
  have := h.2
  rw [left_zero] at this
  omega
theorem il_yes {nd ls : List Int} {S K : Int} (ho : okB nd S K ls = true) (h : ∀ i, i < ls.length → ¬ badAt nd ls i) : ilB nd S K ls = true := by
  rw [ilB, ho, lean_of h]; rfl
theorem il_no {nd ls : List Int} {S K : Int} {i : Nat} (hi : i < ls.length) (h : badAt nd ls i) : ilB nd S K ls = false := by
  rw [ilB, lean_not hi h.1 h.2, Bool.and_false]
end Lo
open Go.RowKit

set_option maxRecDepth 100000 in
set_option maxHeartbeats 4000000 in
theorem il_any {a a' : Option Addr} {n c m c' : Nat} {xs ls : List Int} {S K : Int} {w : World} (hc : m ≤ c') (HN : Hid (xs.length = n)) (HM : Hid (ls.length = m)) (HA : Hid (ARow w a xs)) (HA' : Hid (ARow w a' ls)) :
    Calls Try.prog 13 #[.agg #[.slice a n c, .int .i64 S, .int .i64 K], .slice a' m c'] w fun e w' => e = .returned (.tuple #[.bool (Lo.ilB xs S K ls), .bool (Lo.okB xs S K ls)]) ∧ Below w.heap.size w w' := by
  have hB0 := below_new w (.cells #[.slice a n c, .int .i64 S, .int .i64 K] 25)
  have pb0 := TBox.new w (.slice a n c) (.int .i64 S) (.int .i64 K) 25
  obtain ⟨w0, hw0⟩ : ∃ W, W = w.alloc (.cells #[.slice a n c, .int .i64 S, .int .i64 K] 25) := ⟨_, rfl⟩
  rw [← hw0] at hB0 pb0
  have HW0 := hide hw0.symm
  obtain ⟨B, hB⟩ : ∃ b, b = w.heap.size := ⟨_, rfl⟩
  rw [← hB] at pb0
  have HBe := hide hB.symm
  have PB := hide pb0
  have R0 := hide (HA.out.below hB0)
  have R1 := hide (HA'.out.below hB0)
  have HB0 := hide hB0
  have HAE := hide (ae_any (c := c) (c' := c') (S := S) (K := K) HN HM R0 R1)
  clear hw0 hB pb0 hB0 HA HA'
  cases ho : Lo.okB xs S K ls
  · have HI0 : Hid (Lo.ilB xs S K ls = false) := hide (by simp [Lo.ilB, ho])
    rw [ho] at HAE
    obtain ⟨p0, p1, p2, _⟩ := PB.out
    clear ho
    go_enter Try.func13, Try.ntmps13
    go_upto_region 1 with fail
    rw [HW0.out, HBe.out]
    clear HW0 HBe
    go_wp2_with fail
    refine HAE.out.mono ?_
    rintro e w1 ⟨rfl, hb1⟩
    have HB1 := hide (HB0.out.trans (hb1.mono HB0.out.size))
    clear hb1
    go_wp2_with fail
    go_ret2
    exact ⟨by rw [HI0.out]; rfl, HB1.out⟩
  · rw [ho] at HAE
    obtain ⟨p0, p1, p2, _⟩ := PB.out
    have h := ho
    simp only [Lo.okB, Lo.lotsB, Bool.and_eq_true, decide_eq_true_eq] at h
    have g := Lo.good_of h.1.1
    obtain ⟨n1, n10, hall, _⟩ := g
    have hmn : m = n := by rw [← HM.out, ← HN.out]; exact h.1.2.1
    subst hmn
    rw [HN.out] at n1 n10
    have HLA := hide fun (W : World) (hW : Below w0.heap.size w0 W) => la_av (w := W) (c := c) (c' := c') HN HM n10 (hide (R0.out.below hW)) (hide (R1.out.below hW)) hall h.1.2.2
    have HY := hide (fun h => Lo.il_yes (nd := xs) (ls := ls) (S := S) (K := K) ho h)
    have HNO := hide fun (i : Nat) (hi : i < ls.length) (h : Lo.badAt xs ls i) => Lo.il_no (S := S) (K := K) hi h
    have HLL : Hid ((Lo.leftL xs ls).length = m) := hide (by rw [Lo.leftL_len, HM.out])
    have HZ := hide (Lo.bad_zero xs ls)
    clear ho h hall
    obtain ⟨b3, o3, rfl, hl3, rr3⟩ := R1.out.resolve_left (by intro e; have := HM.out; rw [e] at this; simp at this; omega)
    have HR3 : Hid (∀ W, Below w0.heap.size w0 W → ∀ k, k + 1 < m → W.cell? ⟨b3, o3 + 1 + k, none⟩ = some (.int .i64 (ls.getD (k + 1) 0))) := hide fun W h k hk => by
      rw [show o3 + 1 + k = o3 + (k + 1) by omega]
      exact (h.cell (p := ⟨b3, o3 + (k + 1), none⟩) hl3).trans (rr3 (k + 1) (by rw [HM.out]; exact hk))
    clear rr3
    by_cases hc1 : c' = 1
    · have hm1 : m = 1 := by omega
      subst hm1
      have HT : Hid (Lo.ilB xs S K ls = true) := hide (HY.out fun i hi => by
        have : i = 0 := by rw [HM.out] at hi; omega
        subst this; exact HZ.out)
      subst hc1
      clear n1 n10 hc
      go_enter Try.func13, Try.ntmps13
      go_upto_region 1 with fail
      rw [HW0.out, HBe.out]
      clear HW0 HBe
      go_wp2_with fail
      refine HAE.out.mono ?_
      rintro e w1 ⟨rfl, hb1⟩
      have HB1 := hide hb1
      obtain ⟨p0, p1, p2, _⟩ := PB.out.below hb1
      clear hb1
      go_wp2_with fail
      refine (HLA.out _ HB1.out).mono ?_
      rintro e w2 ⟨b2, rfl, hb2, o2⟩
      have HB2 := hide (HB0.out.trans ((HB1.out.trans (hb2.mono HB1.out.size)).mono HB0.out.size))
      clear hb2 o2
      go_wp2_with fail
      go_loop [7, 8, 20] (fun _ _ s => s = .int .i64 0) (fun _ _ _ => 0)
      case atStart => rfl
      case round =>
        subst hrel
        go_wp2_with fail
        go_ret2
        exact ⟨by rw [HT.out]; rfl, HB2.out⟩
    · have c0 : ¬ c' = 0 := by omega
      have c2 : ¬ c' - 1 = 0 := by omega
      have cc : (m : Int) ≤ (c' : Int) := by omega
      have cm : (1 : Int) ≤ (m : Int) := by omega
      have c1m : 1 ≤ m := n1
      go_enter Try.func13, Try.ntmps13
      go_upto_region 1 with fail
      rw [HW0.out, HBe.out]
      clear HW0 HBe
      go_wp2_with fail
      refine HAE.out.mono ?_
      rintro e w1 ⟨rfl, hb1⟩
      have HB1 := hide hb1
      obtain ⟨p0, p1, p2, _⟩ := PB.out.below hb1
      clear hb1
      go_wp2_with fail
      refine (HLA.out _ HB1.out).mono ?_
      rintro e w2 ⟨b2, rfl, hb2, o2⟩
      have HB2 := hide (HB1.out.trans (hb2.mono HB1.out.size))
      have R2 := hide (arow_owns HLL.out.symm o2.1)
      have HE2 := hide (HB0.out.trans (HB2.out.mono HB0.out.size))
      clear hb2 o2
      go_wp2_with fail
      go_loop [7, 8, 20] (fun _ _ s => ∃ k : Nat, s = .int .i64 k ∧ k + 1 ≤ m ∧ Hid (∀ i, i ≤ k → ¬ Lo.badAt xs ls i)) (fun _ _ s => m - (intOf s).toNat)
      case atStart => exact ⟨0, rfl, n1, hide fun i hi => by
        have : i = 0 := by omega
        subst this; exact HZ.out⟩
      case round =>
        obtain ⟨k, rfl, hk, HK⟩ := hrel
        by_cases hlt : k + 1 < m
        · have r3 := HR3.out _ HB2.out k hlt
          obtain ⟨b4, o4, e4, r4⟩ := R2.out.at (i := k) (by rw [HLL.out]; omega)
          cases e4
          rw [Nat.zero_add, Lo.leftL_at (by rw [HM.out]; omega)] at r4
          have i0 : (0 : Int) ≤ (k : Int) := by omega
          have i1 : (k : Int) < (m : Int) - 1 := by omega
          have i2 : (k : Int) < (m : Int) := by omega
          have i3 : k < m - 1 := by omega
          have HBK : Hid (Lo.badAt xs ls (k + 1) ↔ (0 < ls.getD (k + 1) 0 ∧ 0 < Lt.left (Lo.fn xs) (Lo.fn ls) (k + 1))) := hide Iff.rfl
          generalize ls.getD (k + 1) 0 = q at *
          generalize Lt.left (Lo.fn xs) (Lo.fn ls) (k + 1) = l at *
          by_cases hq : 0 < q
          · by_cases hl : 0 < l
            · have HF := hide (HNO.out (k + 1) (by rw [HM.out]; exact hlt) (HBK.out.2 ⟨hq, hl⟩))
              go_wp2_with fail
              go_ret2
              exact ⟨by rw [HF.out]; rfl, HE2.out⟩
            · have HK2 : Hid (∀ i, i ≤ k + 1 → ¬ Lo.badAt xs ls i) := hide fun i hi => by
                by_cases e : i = k + 1
                · subst e; exact fun h => hl (HBK.out.1 h).2
                · exact HK.out i (by omega)
              go_wp2_with fail
              go_round
              case rel => exact ⟨k + 1, by go_num, by omega, HK2⟩
              case measure => simp only [intOf]; omega
          · have HK2 : Hid (∀ i, i ≤ k + 1 → ¬ Lo.badAt xs ls i) := hide fun i hi => by
              by_cases e : i = k + 1
              · subst e; exact fun h => hq (HBK.out.1 h).1
              · exact HK.out i (by omega)
            go_wp2_with fail
            go_round
            case rel => exact ⟨k + 1, by go_num, by omega, HK2⟩
            case measure => simp only [intOf]; omega
        · have hke : m = k + 1 := by omega
          have HT : Hid (Lo.ilB xs S K ls = true) := hide (HY.out fun i hi => HK.out i (by rw [HM.out] at hi; omega))
          have j1 : ¬ (k : Int) < (m : Int) - 1 := by omega
          have j2 : ¬ k < m - 1 := by omega
          clear hke
          go_wp2_with fail
          go_ret2
          exact ⟨by rw [HT.out]; rfl, HE2.out⟩
set_option maxRecDepth 100000 in
set_option maxHeartbeats 4000000 in
theorem sil_any {a a' : Option Addr} {n c m c' : Nat} {xs ls : List Int} {S K : Int} {w : World} (HN : Hid (xs.length = n)) (HM : Hid (ls.length = m)) (HA : Hid (ARow w a xs)) (HA' : Hid (ARow w a' ls)) :
    Calls Try.prog 17 #[.agg #[.slice a n c, .int .i64 S, .int .i64 K], .slice a' m c'] w fun e w' => e = .returned (.tuple #[.bool (Lo.ilB xs S K ls), .bool (Lo.okB xs S K ls)]) ∧ Below w.heap.size w w' := by
  have hB0 := below_new w (.cells #[.slice a n c, .int .i64 S, .int .i64 K] 25)
  have pb0 := TBox.new w (.slice a n c) (.int .i64 S) (.int .i64 K) 25
  obtain ⟨w0, hw0⟩ : ∃ W, W = w.alloc (.cells #[.slice a n c, .int .i64 S, .int .i64 K] 25) := ⟨_, rfl⟩
  rw [← hw0] at hB0 pb0
  have HW0 := hide hw0.symm
  obtain ⟨B, hB⟩ : ∃ b, b = w.heap.size := ⟨_, rfl⟩
  rw [← hB] at pb0
  have HBe := hide hB.symm
  have PB := hide pb0
  have R0 := hide (HA.out.below hB0)
  have R1 := hide (HA'.out.below hB0)
  have HB0 := hide hB0
  have HAE := hide (sl14_any (c := c) (c' := c') (S := S) (K := K) HN HM R0 R1)
  clear hw0 hB pb0 hB0 HA HA'
  cases ho : Lo.lotsB xs S K ls
  · have HI0 : Hid (Lo.ilB xs S K ls = false) := hide (by simp [Lo.ilB, Lo.okB, ho])
    have HI1 : Hid (Lo.okB xs S K ls = false) := hide (by simp [Lo.okB, ho])
    rw [ho] at HAE
    obtain ⟨p0, p1, p2, _⟩ := PB.out
    clear ho
    go_enter Try.func17, Try.ntmps17
    go_upto_region 1 with fail
    rw [HW0.out, HBe.out]
    clear HW0 HBe
    go_wp2_with fail
    refine HAE.out.mono ?_
    rintro e w1 ⟨rfl, hb1⟩
    have HB1 := hide (HB0.out.trans (hb1.mono HB0.out.size))
    clear hb1
    go_wp2_with fail
    go_ret2
    exact ⟨by rw [HI0.out, HI1.out]; rfl, HB1.out⟩
  · rw [ho] at HAE
    have h := ho
    simp only [Lo.lotsB, Bool.and_eq_true, decide_eq_true_eq] at h
    have g := Lo.good_of h.1
    obtain ⟨n1, n10, hall, s0, s1, k0, k1⟩ := g
    have hmn : m = n := by rw [← HM.out, ← HN.out]; exact h.2.1
    subst hmn
    rw [HN.out] at n1 n10
    have HOL := hide fun (W : World) (hW : Below w0.heap.size w0 W) => sc14_any (c := c) (c' := c') (w := W) s0 s1 k0 k1 HN HM n10 (hide (R0.out.below hW)) (hide (R1.out.below hW)) hall h.2.2
    cases he : Lo.enB xs ls
    · have HI0 : Hid (Lo.ilB xs S K ls = false) := hide (by simp [Lo.ilB, Lo.okB, he])
      have HI1 : Hid (Lo.okB xs S K ls = false) := hide (by simp [Lo.okB, he])
      have hsc : sc14 S K xs ls m = -1 := by rw [sc14, he]; rfl
      rw [hsc] at HOL
      obtain ⟨p0, p1, p2, _⟩ := PB.out
      clear ho h s0 s1 k0 k1 hall he hsc
      go_enter Try.func17, Try.ntmps17
      go_upto_region 1 with fail
      rw [HW0.out, HBe.out]
      clear HW0 HBe
      go_wp2_with fail
      refine HAE.out.mono ?_
      rintro e w1 ⟨rfl, hb1⟩
      have HB1 := hide hb1
      obtain ⟨p0, p1, p2, _⟩ := PB.out.below hb1
      clear hb1
      go_wp2_with fail
      refine (HOL.out _ HB1.out).mono ?_
      rintro e w2 ⟨rfl, hb2⟩
      have HB2 := hide (HB0.out.trans ((HB1.out.trans (hb2.mono HB1.out.size)).mono HB0.out.size))
      clear hb2
      go_wp2_with fail
      go_ret2
      exact ⟨by rw [HI0.out, HI1.out]; rfl, HB2.out⟩
    · have ho2 : Lo.okB xs S K ls = true := by simp [Lo.okB, he, ho]
      have HI1 : Hid (Lo.okB xs S K ls = true) := hide ho2
      have HY := hide (fun h => Lo.il_yes (nd := xs) (ls := ls) (S := S) (K := K) ho2 h)
      have HNO := hide fun (i : Nat) (hi : i < ls.length) (h : Lo.badAt xs ls i) => Lo.il_no (S := S) (K := K) hi h
      have hnn : 0 ≤ sc14 S K xs ls m := by
        rw [sc14, he, if_pos rfl]
        exact (Lo.cst_bd m s0 s1 k0 k1 fun j hj => by
          have h1 := Lo.left_bds hall h.2.2 HN.out HM.out (j := j) hj
          cases j with
          | zero => exact ⟨Int.le_refl _, by show (0 : Int) ≤ 2000; omega⟩
          | succ j => exact ⟨Lo.en_at he (by rw [HM.out]; omega), by omega⟩).1
      generalize sc14 S K xs ls m = V at *
      have hv : ¬ V < 0 := by omega
      have HD := hide fun (k : Nat) (hk : k ≤ m) => Lo.left_bds hall h.2.2 HN.out HM.out hk
      have HP1 := hide fun (k : Nat) (hk : k < m) => Pf.inB_yes (Pf.allB_get hall (show k < xs.length by rw [HN.out]; exact hk))
      have HP2 := hide fun (k : Nat) (hk : k < m) => Pf.inB_yes (Pf.allB_get h.2.2 (show k < ls.length by rw [HM.out]; exact hk))
      obtain ⟨p0, p1, p2, _⟩ := PB.out
      clear ho h s0 s1 k0 k1 hall he ho2
      go_enter Try.func17, Try.ntmps17
      go_upto_region 1 with fail
      rw [HW0.out, HBe.out]
      clear HW0 HBe
      go_wp2_with fail
      refine HAE.out.mono ?_
      rintro e w1 ⟨rfl, hb1⟩
      have HB1 := hide hb1
      obtain ⟨p0, p1, p2, _⟩ := PB.out.below hb1
      clear hb1
      go_wp2_with fail
      refine (HOL.out _ HB1.out).mono ?_
      rintro e w2 ⟨rfl, hb2⟩
      have HU2 := hide (HB1.out.trans (hb2.mono HB1.out.size))
      have HB2 := hide (HB0.out.trans (HU2.out.mono HB0.out.size))
      obtain ⟨p0, p1, p2, _⟩ := PB.out.below HU2.out
      clear hb2
      go_wp2_with fail
      go_loop [6, 7, 8, 21] (fun s6 _ _ s => ∃ (k : Nat) (l : Int), s6 = .int .i64 l ∧ s = .int .i64 k ∧ k ≤ m ∧ Hid (l = Lt.left (Lo.fn xs) (Lo.fn ls) k) ∧ Hid (∀ i, i < k → ¬ Lo.badAt xs ls i)) (fun _ _ _ s => m - (intOf s).toNat)
      case atStart => exact ⟨0, 0, rfl, rfl, Nat.zero_le _, hide rfl, hide fun i hi => absurd hi (Nat.not_lt_zero _)⟩
      case round =>
        obtain ⟨k, l, rfl, rfl, hk, HLf, HK⟩ := hrel
        by_cases hlt : k < m
        · obtain ⟨b1, o1, rfl, r1⟩ := (R0.out.below HU2.out).at (i := k) (by rw [HN.out]; exact hlt)
          obtain ⟨b2, o2, rfl, r2⟩ := (R1.out.below HU2.out).at (i := k) (by rw [HM.out]; exact hlt)
          have i0 : (0 : Int) ≤ (k : Int) := by omega
          have i1 : (k : Int) < (m : Int) := by omega
          obtain ⟨q0, q1⟩ := HP1.out k hlt
          obtain ⟨q2, q3⟩ := HP2.out k hlt
          obtain ⟨d0, d1⟩ := HD.out k hk
          have HE : Hid (l + (ls.getD k 0 - xs.getD k 0) = Lt.left (Lo.fn xs) (Lo.fn ls) (k + 1)) := hide (by rw [HLf.out, Lo.left_succ])
          have HBK : Hid (Lo.badAt xs ls k ↔ (0 < ls.getD k 0 ∧ 0 < l)) := hide (by rw [HLf.out]; exact Iff.rfl)
          rw [← HLf.out] at d0 d1
          have l0 : -200 ≤ l := by omega
          have l1 : l ≤ 2000 := by omega
          generalize xs.getD k 0 = p at *
          generalize ls.getD k 0 = q at *
          clear d0 d1
          by_cases hq : 0 < q
          · by_cases hl : 0 < l
            · have HF := hide (HNO.out k (by rw [HM.out]; exact hlt) (HBK.out.2 ⟨hq, hl⟩))
              go_wp2_with fail
              go_ret2
              exact ⟨by rw [HF.out, HI1.out]; rfl, HB2.out⟩
            · have HK2 : Hid (∀ i, i < k + 1 → ¬ Lo.badAt xs ls i) := hide fun i hi => by
                by_cases e : i = k
                · subst e; exact fun h => hl (HBK.out.1 h).2
                · exact HK.out i (by omega)
              go_wp2_with fail
              go_round
              case rel => exact ⟨k + 1, l + (q - p), by go_num, by go_num, by omega, HE, HK2⟩
              case measure => simp only [intOf]; omega
          · have HK2 : Hid (∀ i, i < k + 1 → ¬ Lo.badAt xs ls i) := hide fun i hi => by
              by_cases e : i = k
              · subst e; exact fun h => hq (HBK.out.1 h).1
              · exact HK.out i (by omega)
            go_wp2_with fail
            go_round
            case rel => exact ⟨k + 1, l + (q - p), by go_num, by go_num, by omega, HE, HK2⟩
            case measure => simp only [intOf]; omega
        · have hke : k = m := by omega
          subst hke
          have HT : Hid (Lo.ilB xs S K ls = true) := hide (HY.out fun i hi => HK.out i (by rw [HM.out] at hi; exact hi))
          go_wp2_with fail
          go_ret2
          exact ⟨by rw [HT.out, HI1.out]; rfl, HB2.out⟩
end Go.Proofs.Ytebohpgdhbammaa
namespace Go.Proofs.Ytebohpgdhbammaa
namespace Lo
theorem ctL_le {nd : List Int} {S K : Int} : (ctL nd S K).length ≤ 11 := by
  cases h : goodB nd S K
  · simp [ctL, h]
  · rw [ctL, if_pos h, Lt.tab_len]; have := (good_of h).n10; omega
end Lo
open Go.RowKit
set_option maxRecDepth 100000 in
set_option maxHeartbeats 4000000 in
theorem ct_w {a : Option Addr} {n c : Nat} {xs : List Int} {S K : Int} {w : World} (hc : n ≤ c) (HN : Hid (xs.length = n)) (HA : Hid (ARow w a xs)) :
    Calls Try.prog 14 #[.agg #[.slice a n c, .int .i64 S, .int .i64 K]] w fun e w' => LB14 w (Lo.goodB xs S K) (Lo.ctL xs S K) e w' := by
  have hB0 := below_new w (.cells #[.slice a n c, .int .i64 S, .int .i64 K] 25)
  have pb0 := TBox.new w (.slice a n c) (.int .i64 S) (.int .i64 K) 25
  obtain ⟨w0, hw0⟩ : ∃ W, W = w.alloc (.cells #[.slice a n c, .int .i64 S, .int .i64 K] 25) := ⟨_, rfl⟩
  rw [← hw0] at hB0 pb0
  have HW0 := hide hw0.symm
  obtain ⟨B, hB⟩ : ∃ b, b = w.heap.size := ⟨_, rfl⟩
  rw [← hB] at pb0
  have HBe := hide hB.symm
  have PB := hide pb0
  have R0 := hide (HA.out.below hB0)
  have HB0 := hide hB0
  clear hw0 hB pb0 hB0 HA
  obtain ⟨YY, hY⟩ : ∃ G, G = Lo.ctL xs S K := ⟨_, rfl⟩
  rw [← hY]
  cases hg : Lo.goodB xs S K
  · have HG := hide hg
    have HNO : Hid (∀ W, Below w.heap.size w W → LB14 w false YY (.returned (.tuple #[.slice none 0 0, .bool false])) W) := hide fun W h => by
      rw [hY, Lo.ctL, hg]
      exact ⟨_, rfl, h, av_nil14 _ _⟩
    obtain ⟨p0, p1, p2, _⟩ := PB.out
    clear hg hY
    go_enter Try.func14, Try.ntmps14
    go_upto_region 1 with fail
    rw [HW0.out, HBe.out]
    clear HW0 HBe
    go_wp2_with fail
    refine (gt_eq HN R0 HG).mono ?_
    rintro e w1 ⟨rfl, hb1⟩
    have HB1 := hide (HB0.out.trans (hb1.mono HB0.out.size))
    clear hb1
    go_wp2_with fail
    go_ret2
    exact HNO.out _ HB1.out
  · have HG := hide hg
    have g := Lo.good_of hg
    obtain ⟨n1, n10, hall, s0, s1, k0, k1⟩ := g
    rw [HN.out] at n1 n10
    have HYES : Hid (∀ v W, Below w.heap.size w W → (∃ lo hi, w.heap.size ≤ lo ∧ AV W lo hi v (n + 1) (Lt.tab S K (Lo.fn xs) n)) → LB14 w true YY (.returned (.tuple #[v, .bool true])) W) := hide fun v W h ⟨lo, hi, h1, h2⟩ => by
      rw [hY, Lo.ctL, if_pos hg, HN.out]
      refine ⟨v, rfl, h, ?_⟩
      rw [Lt.tab_len]
      exact ⟨owns_low h2.1 h1, fun g hg => by have := (h2.1.lt g hg).2; exact this, Nat.le_refl _⟩
    have HLT := hide fun (W : World) (r : Hid (ARow W a xs)) => lt14_any (w := W) (c := c) s0 s1 k0 k1 HN n10 hc r hall
    obtain ⟨p0, p1, p2, _⟩ := PB.out
    clear hg hY hall s0 s1 k0 k1
    go_enter Try.func14, Try.ntmps14
    go_upto_region 1 with fail
    rw [HW0.out, HBe.out]
    clear HW0 HBe
    go_wp2_with fail
    refine (gt_eq HN R0 HG).mono ?_
    rintro e w1 ⟨rfl, hb1⟩
    have R1 := hide (R0.out.below hb1)
    have HB1 := hide (HB0.out.trans (hb1.mono HB0.out.size))
    obtain ⟨p0, p1, p2, _⟩ := PB.out.below hb1
    clear hb1
    go_wp2_with fail
    refine (HLT.out _ R1).mono ?_
    rintro e w2 ⟨b2, c2, rfl, hb2, o2⟩
    have HB2 := hide (HB1.out.trans (hb2.mono HB1.out.size))
    have HE := hide (show ∃ lo hi, w.heap.size ≤ lo ∧ AV w2 lo hi (.slice (some ⟨b2, 0, none⟩) (n + 1) c2) (n + 1) (Lt.tab S K (Lo.fn xs) n) from ⟨_, _, HB1.out.size, o2⟩)
    clear hb2 o2
    go_wp2_with fail
    go_ret2
    exact HYES.out _ _ HB2.out HE.out
theorem ct_v {a : Option Addr} {n c : Nat} {xs : List Int} {S K : Int} {w : World} (hc : n ≤ c) (HN : Hid (xs.length = n)) (HA : Hid (ARow w a xs)) :
    Calls Try.prog 14 #[.agg #[.slice a n c, .int .i64 S, .int .i64 K]] w fun e w' => ∃ v, e = .returned (.tuple #[v, .bool (Lo.goodB xs S K)]) ∧ Below w.heap.size w w' ∧ AV w' w.heap.size w'.heap.size v (Lo.ctL xs S K).length (Lo.ctL xs S K) := ct_w hc HN HA
set_option maxRecDepth 100000 in
set_option maxHeartbeats 4000000 in
theorem sct_w {a : Option Addr} {n c : Nat} {xs : List Int} {S K : Int} {w : World} (HN : Hid (xs.length = n)) (HA : Hid (ARow w a xs)) :
    Calls Try.prog 24 #[.agg #[.slice a n c, .int .i64 S, .int .i64 K]] w fun e w' => LB14 w (Lo.goodB xs S K) (Lo.ctL xs S K) e w' := by
  have hB0 := below_new w (.cells #[.slice a n c, .int .i64 S, .int .i64 K] 25)
  have pb0 := TBox.new w (.slice a n c) (.int .i64 S) (.int .i64 K) 25
  obtain ⟨w0, hw0⟩ : ∃ W, W = w.alloc (.cells #[.slice a n c, .int .i64 S, .int .i64 K] 25) := ⟨_, rfl⟩
  rw [← hw0] at hB0 pb0
  have HW0 := hide hw0.symm
  obtain ⟨B, hB⟩ : ∃ b, b = w.heap.size := ⟨_, rfl⟩
  rw [← hB] at pb0
  have HBe := hide hB.symm
  have PB := hide pb0
  have R0 := hide (HA.out.below hB0)
  have HB0 := hide hB0
  clear hw0 hB pb0 hB0 HA
  obtain ⟨YY, hY⟩ : ∃ G, G = Lo.ctL xs S K := ⟨_, rfl⟩
  rw [← hY]
  cases hg : Lo.goodB xs S K
  · have HG := hide hg
    have HNO : Hid (∀ W, Below w.heap.size w W → LB14 w false YY (.returned (.tuple #[.slice none 0 0, .bool false])) W) := hide fun W h => by
      rw [hY, Lo.ctL, hg]
      exact ⟨_, rfl, h, av_nil14 _ _⟩
    obtain ⟨p0, p1, p2, _⟩ := PB.out
    clear hg hY
    go_enter Try.func24, Try.ntmps24
    go_upto_region 1 with fail
    rw [HW0.out, HBe.out]
    clear HW0 HBe
    go_wp2_with fail
    refine (sgt_eq HN R0 HG).mono ?_
    rintro e w1 ⟨rfl, hb1⟩
    have HB1 := hide (HB0.out.trans (hb1.mono HB0.out.size))
    clear hb1
    go_wp2_with fail
    go_ret2
    exact HNO.out _ HB1.out
  · have HG := hide hg
    have g := Lo.good_of hg
    obtain ⟨n1, n10, hall, s0, s1, k0, k1⟩ := g
    rw [HN.out] at n1 n10
    have HYES : Hid (∀ v W, Below w.heap.size w W → (∃ lo hi, w.heap.size ≤ lo ∧ AV W lo hi v (n + 1) (Lt.tab S K (Lo.fn xs) n)) → LB14 w true YY (.returned (.tuple #[v, .bool true])) W) := hide fun v W h ⟨lo, hi, h1, h2⟩ => by
      rw [hY, Lo.ctL, if_pos hg, HN.out]
      refine ⟨v, rfl, h, ?_⟩
      rw [Lt.tab_len]
      exact ⟨owns_low h2.1 h1, fun g hg => by have := (h2.1.lt g hg).2; exact this, Nat.le_refl _⟩
    have HLT := hide fun (W : World) (r : Hid (ARow W a xs)) => slt14_any (w := W) (c := c) s0 s1 k0 k1 HN n10 r hall
    obtain ⟨p0, p1, p2, _⟩ := PB.out
    clear hg hY hall s0 s1 k0 k1
    go_enter Try.func24, Try.ntmps24
    go_upto_region 1 with fail
    rw [HW0.out, HBe.out]
    clear HW0 HBe
    go_wp2_with fail
    refine (sgt_eq HN R0 HG).mono ?_
    rintro e w1 ⟨rfl, hb1⟩
    have R1 := hide (R0.out.below hb1)
    have HB1 := hide (HB0.out.trans (hb1.mono HB0.out.size))
    obtain ⟨p0, p1, p2, _⟩ := PB.out.below hb1
    clear hb1
    go_wp2_with fail
    refine (HLT.out _ R1).mono ?_
    rintro e w2 ⟨b2, c2, rfl, hb2, o2⟩
    have HB2 := hide (HB1.out.trans (hb2.mono HB1.out.size))
    have HE := hide (show ∃ lo hi, w.heap.size ≤ lo ∧ AV w2 lo hi (.slice (some ⟨b2, 0, none⟩) (n + 1) c2) (n + 1) (Lt.tab S K (Lo.fn xs) n) from ⟨_, _, HB1.out.size, o2⟩)
    clear hb2 o2
    go_wp2_with fail
    go_ret2
    exact HYES.out _ _ HB2.out HE.out
theorem sct_v {a : Option Addr} {n c : Nat} {xs : List Int} {S K : Int} {w : World} (HN : Hid (xs.length = n)) (HA : Hid (ARow w a xs)) :
    Calls Try.prog 24 #[.agg #[.slice a n c, .int .i64 S, .int .i64 K]] w fun e w' => ∃ v, e = .returned (.tuple #[v, .bool (Lo.goodB xs S K)]) ∧ Below w.heap.size w w' ∧ AV w' w.heap.size w'.heap.size v (Lo.ctL xs S K).length (Lo.ctL xs S K) := sct_w HN HA
end Go.Proofs.Ytebohpgdhbammaa
namespace Go.Proofs.Ytebohpgdhbammaa
open Go.RowKit
set_option maxRecDepth 100000 in
set_option maxHeartbeats 1000000 in
theorem sm14_zero (a b : Option Addr) (c d : Nat) (w : World) :
    Calls Try.prog 12 #[.slice a 0 c, .slice b 0 d] w fun e w' => e = .returned (.bool true) ∧ w' = w := by
  go_enter Try.func12, Try.ntmps12
  go_wp2_with fail
  go_loop [13] (fun s => s = .int .i64 0) (fun s => 0)
  case atStart => rfl
  case round =>
    subst hrel
    go_wp2_with fail
    go_ret
    exact ⟨rfl, rfl⟩
set_option maxRecDepth 100000 in
set_option maxHeartbeats 1000000 in
theorem sm14_some (xs : List Int) (b o c b' o' c' : Nat) (w : World) (hl : xs.length ≤ 4000000000000) (h1 : ∀ i, i < xs.length → w.cell? ⟨b, o + i, none⟩ = some (.int .i64 (xs.getD i 0))) (h2 : ∀ i, i < xs.length → w.cell? ⟨b', o' + i, none⟩ = some (.int .i64 (xs.getD i 0))) :
    Calls Try.prog 12 #[.slice (some ⟨b, o, none⟩) xs.length c, .slice (some ⟨b', o', none⟩) xs.length c'] w fun e w' => e = .returned (.bool true) ∧ ∃ m, w' = w.drewN m := by
  have hne : ((xs.length : Int) != (xs.length : Int)) = false := by simp
  have H1 := hide h1
  have H2 := hide h2
  clear h1 h2
  go_enter Try.func12, Try.ntmps12
  go_wp2_with fail
  go_loopw [13] (fun s wr => ∃ k : Nat, s = .int .i64 k ∧ k ≤ xs.length ∧ ∃ m, wr = w.drewN m) (fun s _ => xs.length - (intOf s).toNat)
  case atStart => exact ⟨0, rfl, Nat.zero_le _, 0, rfl⟩
  case round =>
    obtain ⟨k, rfl, hk, m, rfl⟩ := hrel
    by_cases hlt : k < xs.length
    · have r1 := H1.out k hlt
      have r2 := H2.out k hlt
      have i0 : (0 : Int) ≤ (k : Int) := by omega
      have i1 : (k : Int) < (xs.length : Int) := by omega
      generalize xs.getD k 0 = x at *
      have hxx : (x != x) = false := by simp
      go_wp2_with fail
      go_region
      go_wp2_with fail
      exact ⟨⟨k + 1, by go_num, by omega, m + 1, rfl⟩, by simp only [intOf]; omega⟩
    · go_wp2_with fail
      go_ret
      exact ⟨rfl, m, rfl⟩
theorem sm14 {a b : Option Addr} {c d n : Nat} {xs : List Int} {w : World} (hn : Hid (xs.length = n)) (hl : n ≤ 1048576) (h1 : ARow w a xs) (h2 : ARow w b xs) :
    Calls Try.prog 12 #[.slice a n c, .slice b n d] w fun e w' => e = .returned (.bool true) ∧ Below w.heap.size w w' := by
  have := hn.out
  subst this
  rcases h1 with rfl | ⟨b1, o1, rfl, hb1, c1⟩
  · exact (sm14_zero a b c d w).mono fun e w' ⟨h, hw⟩ => ⟨h, hw ▸ Below.refl _ _⟩
  · rcases h2 with rfl | ⟨b2, o2, rfl, hb2, c2⟩
    · exact (sm14_zero _ b c d w).mono fun e w' ⟨h, hw⟩ => ⟨h, hw ▸ Below.refl _ _⟩
    · exact (sm14_some xs b1 o1 c b2 o2 d w (by omega) c1 c2).mono fun e w' ⟨h, m, hw⟩ => ⟨h, hw ▸ below_drewN (Below.refl _ _) m⟩
set_option maxRecDepth 100000 in
set_option maxHeartbeats 1000000 in
theorem lsum14 {a : Option Addr} {c : Nat} {xs : List Int} {w : World} (h : ARow w a xs) (hl : xs.length ≤ 1000) (hb : Pf.allB xs (-10000000) 10000000 = true) :
    Calls Try.prog 15 #[.slice a xs.length c] w fun e w' => e = .returned (.int .i64 xs.sum) ∧ w' = w := by
  have H := hide h
  have HB := hide hb
  clear h hb
  go_enter Try.func15, Try.ntmps15
  go_wp2_with fail
  go_loop [3, 5, 8] (fun s3 _ s => ∃ (k : Nat) (n : Int), s3 = .int .i64 n ∧ s = .int .i64 k ∧ k ≤ xs.length ∧ Hid (n = (xs.take k).sum) ∧ -10000000000 ≤ n ∧ n ≤ 10000000000) (fun _ _ s => xs.length - (intOf s).toNat)
  case atStart => exact ⟨0, 0, rfl, rfl, Nat.zero_le _, hide (by simp), by omega, by omega⟩
  case round =>
    obtain ⟨k, n, rfl, rfl, hk, HN, hn0, hn1⟩ := hrel
    by_cases hlt : k < xs.length
    · obtain ⟨b, off, rfl, r1⟩ := H.out.at hlt
      have i0 : (0 : Int) ≤ (k : Int) := by omega
      have i1 : (k : Int) < (xs.length : Int) := by omega
      have hs := Pf.take_sum_succ xs k hlt
      have hx := Pf.inB_yes (Pf.allB_get HB.out hlt)
      have ht := Pf.sum_bd (Pf.allB_take HB.out (k + 1))
      rw [show (xs.take (k + 1)).length = k + 1 by simp; omega] at ht
      rw [hs, ← HN.out] at ht
      rw [← HN.out] at hs
      have HS := hide hs
      generalize xs.getD k 0 = x at *
      clear hs
      obtain ⟨hx0, hx1⟩ := hx
      have ht0 : -10000000000 ≤ n + x := by omega
      have ht1 : n + x ≤ 10000000000 := by omega
      clear ht
      go_wp2_with fail
      go_round
      case rel => exact ⟨k + 1, n + x, by go_num, by go_num, by omega, hide HS.out.symm, by omega, by omega⟩
      case measure => simp only [intOf]; omega
    · have hke : k = xs.length := by omega
      subst hke
      have HE := HN.out
      rw [List.take_length] at HE
      have HE' := hide HE
      clear HE
      go_wp2_with fail
      go_ret
      exact ⟨ret_int HE'.out, rfl⟩
theorem lsum14n {a : Option Addr} {n c : Nat} {xs : List Int} {w : World} (HN : Hid (xs.length = n)) (HA : Hid (ARow w a xs)) (hl : n ≤ 1000) (hb : Hid (Pf.allB xs 0 200 = true)) :
    Calls Try.prog 15 #[.slice a n c] w fun e w' => e = .returned (.int .i64 xs.sum) ∧ w' = w := by
  have := HN.out
  subst this
  refine lsum14 HA.out hl (Pf.allB_of fun i hi => ?_)
  have := Pf.inB_yes (Pf.allB_get hb.out hi)
  exact Pf.inB_of (by omega) (by omega)
namespace Lo
open Lt
open Bx (sumTo)
theorem ok_cst {nd ls : List Int} {S K : Int} (h : okB nd S K ls = true) : Good nd S K ∧ ls.length = nd.length ∧ Pf.allB ls 0 200 = true ∧ lcI nd S K ls = cst S K (fn nd) (fn ls) nd.length ∧ T S K (fn nd) nd.length ≤ lcI nd S K ls := by
  have h' := h
  simp only [okB, lotsB, Bool.and_eq_true, decide_eq_true_eq] at h'
  have g := good_of h'.1.1
  have e : lcI nd S K ls = cst S K (fn nd) (fn ls) nd.length := by rw [lcI, if_pos h]
  refine ⟨g, h'.1.2.1, h'.1.2.2, e, ?_⟩
  rw [e]
  refine ww g.s0 g.k0 _ ⟨fun i hi => (g.bd i).1, fun i hi => (Pf.inB_yes (Pf.allB_get h'.1.2.2 (by omega))).1, fun j hj => ?_⟩
  cases j with
  | zero => exact Int.le_refl _
  | succ j => exact en_at h'.2 (by omega)
structure LotsAre (nd : List Int) (S K : Int) (ls : List Int) : Prop where
  ok : okB nd S K ls = true
  il : ilB nd S K ls = true
  sum : ls.sum = nd.sum
  all : Pf.allB ls 0 200 = true
  len : ls.length = nd.length
  least : blI nd S K ≤ lcI nd S K ls
theorem blI_yes {nd : List Int} {S K : Int} (hg : goodB nd S K = true) : blI nd S K = T S K (fn nd) nd.length := by rw [blI, if_pos hg]
theorem lots_are {nd ds : List Int} {S K : Int} (hg : goodB nd S K = true) (h0 : ds.contains (0 : Int) = true) : LotsAre nd S K (lotsL nd ds) := by
  have hok := lots_ok (days := ds) hg
  obtain ⟨g, h1, h2, _, h4⟩ := ok_cst hok
  exact ⟨hok, by rw [ilB, hok, lots_lean h0]; rfl, lots_all nd ds, h2, h1, by rw [blI_yes hg]; exact h4⟩
theorem bl_yes {nd : List Int} {S K : Int} (hg : goodB nd S K = true) : blL nd S K = lotsL nd (bdL nd S K) := by rw [blL, if_pos hg]
theorem bl_are {nd : List Int} {S K : Int} (hg : goodB nd S K = true) : LotsAre nd S K (blL nd S K) := by
  rw [bl_yes hg]
  exact lots_are hg (day_zero (bdL_days (good_of hg).n1))
theorem bl_cost {nd : List Int} {S K : Int} (hg : goodB nd S K = true) : lcI nd S K (blL nd S K) = blI nd S K := by
  have h := (bl_are hg).ok
  rw [(ok_cst h).2.2.2.1, blI_yes hg, bl_yes hg]
  exact best_cost (good_of hg)
theorem ct_yes {nd : List Int} {S K : Int} (hg : goodB nd S K = true) : ctL nd S K = tab S K (fn nd) nd.length := by rw [ctL, if_pos hg]
theorem ct_len {nd : List Int} {S K : Int} (hg : goodB nd S K = true) : (ctL nd S K).length = nd.length + 1 := by rw [ct_yes hg, tab_len]
theorem ct_at {nd : List Int} {S K : Int} (hg : goodB nd S K = true) {i : Nat} (hi : i ≤ nd.length) : (ctL nd S K).getD i 0 = T S K (fn nd) i := by rw [ct_yes hg]; exact tab_at hi
theorem ct_last {nd : List Int} {S K : Int} (hg : goodB nd S K = true) : (ctL nd S K).getD nd.length 0 = blI nd S K := by rw [ct_at hg (Nat.le_refl _), blI_yes hg]
theorem ct_mono {nd : List Int} {S K : Int} (hg : goodB nd S K = true) {i : Nat} (h1 : 1 ≤ i) (hi : i ≤ nd.length) : ¬ (ctL nd S K).getD i 0 < (ctL nd S K).getD (i - 1) 0 := by
  have g := good_of hg
  rw [ct_at hg hi, ct_at hg (show i - 1 ≤ nd.length by omega)]
  have := T_mono (S := S) (K := K) (nd := fn nd) (t := i - 1) g.s0 g.k0 fun j _ => (g.bd j).1
  rw [show i - 1 + 1 = i by omega] at this
  omega
def startsTo (nd : List Int) (S : Int) (k : Nat) : Int := sumTo (fun i => if 0 < fn nd i then S else 0) k
theorem nd_are {nd : List Int} {S K : Int} (hg : goodB nd S K = true) : LotsAre nd S K nd := by
  have h := lots_are hg (nums_has (n := nd.length) (k := 0) (good_of hg).n1)
  rwa [nums_lots] at h
theorem nd_cost {nd : List Int} {S K : Int} (hg : goodB nd S K = true) : lcI nd S K nd = startsTo nd S nd.length := by
  rw [(ok_cst (nd_are hg).ok).2.2.2.1]
  refine Bx.sum_eq _ fun i _ => ?_
  have : left (fn nd) (fn nd) (i + 1) = 0 := by unfold left; omega
  rw [this, Int.mul_zero, Int.add_zero]
theorem starts_bd {nd : List Int} {S K : Int} (hg : goodB nd S K = true) (k : Nat) : 0 ≤ startsTo nd S k ∧ startsTo nd S k ≤ 100 * (k : Int) := by
  have g := good_of hg
  have := sum_bd (f := fun i => if 0 < fn nd i then S else 0) (lo := 0) (hi := 100) k fun i _ => by
    have := g.s0
    have := g.s1
    show 0 ≤ (if 0 < fn nd i then S else 0) ∧ (if 0 < fn nd i then S else 0) ≤ 100
    split <;> omega
  rw [Int.zero_mul] at this
  exact this
end Lo
end Go.Proofs.Ytebohpgdhbammaa
