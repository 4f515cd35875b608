/-
  LotsFor and EachDay of the program and of the model.
-/
import Derived.Test.YticekgjgknfloaaAh14
import Derived.Test.YticekgjgknfloaaHv
import Derived.Lib.AppendZeros
namespace Go.Proofs.Yticekgjgknfloaa
namespace Lo
open Lt
open Bx (sumTo lev)
theorem lfL_yes {nd ds : List Int} {S K : Int} (h : lfB nd S K ds = true) : lfL nd S K ds = lotsL nd ds := by rw [lfL, if_pos h]
theorem lfL_no {nd ds : List Int} {S K : Int} (h : lfB nd S K ds = false) : lfL nd S K ds = [] := by rw [lfL, h]; rfl
def nums (n : Nat) : List Int := tbl n fun i => (i : Int)
theorem nums_len (n : Nat) : (nums n).length = n := tbl_len _ _
theorem nums_has {n k : Nat} (h : k < n) : (nums n).contains (k : Int) = true := by
  rw [List.contains_eq_mem, decide_eq_true_eq]
  exact List.mem_map.2 ⟨k, by simpa using h, rfl⟩
theorem nums_days {n : Nat} (h : 0 < n) : dayB (nums n) n = true := by
  have h0 : (nums n).getD 0 0 = 0 := by rw [nums, tbl_get _ h]; rfl
  simp only [dayB, nums_len, h, h0, decide_true, Bool.true_and, beq_self_eq_true]
  refine List.all_eq_true.2 fun i hi => ?_
  have hi' : i < n := by simpa [nums_len] using hi
  unfold Ma.riseAt Ma.least
  rw [nums, tbl_get _ hi']
  refine Pf.inB_of ?_ (by omega)
  split
  · omega
  · rw [tbl_get _ (by omega)]; omega
theorem nums_lots (nd : List Int) : lotsL nd (nums nd.length) = nd := by
  have : lotsL nd (nums nd.length) = tbl nd.length (fn nd) := tbl_eq fun d hd => by
    refine Bx.lev_only hd (lat_self (nums_has hd)) fun j hj hne => ?_
    rw [lat_self (nums_has hj)]; exact hne
  rw [this, tbl_self]
end Lo
open Go.RowKit
theorem av_nil14 (w : World) (lo : Nat) : AV w lo w.heap.size (.slice none 0 0) 0 [] := ⟨World.ownsRow_nil _ _ _ _, fun g hg => by simp [Value.ownBlock] at hg, Nat.le_refl _⟩
/-- What a function with a list and a word of it answers. -/
def LB14 (w : World) (G : Bool) (Y : List Int) (e : Ending) (w' : World) : Prop := ∃ v, e = .returned (.tuple #[v, .bool G]) ∧ Below w.heap.size w w' ∧ AV w' w.heap.size w'.heap.size v Y.length Y

set_option maxHeartbeats 4000000 in
theorem lf_w {a a' : Option Addr} {n c m c' : Nat} {xs ds : List Int} {S K : Int} {w : World} (HN : Hid (xs.length = n)) (HM : Hid (ds.length = m)) (hm : m ≤ 1048576) (HA : Hid (ARow w a xs)) (HA' : Hid (ARow w a' ds)) :
    Calls Try.prog 26 #[.agg #[.slice a n c, .int .i64 S, .int .i64 K], .slice a' m c'] w fun e w' => LB14 w (Lo.lfB xs S K ds) (Lo.lfL xs S K ds) e w' := by
  have hB0 := below_new w (.cells #[.slice a n c, .int .i64 S, .int .i64 K] 27)
  have pb0 := TBox.new w (.slice a n c) (.int .i64 S) (.int .i64 K) 27
  obtain ⟨w0, hw0⟩ : ∃ W, W = w.alloc (.cells #[.slice a n c, .int .i64 S, .int .i64 K] 27) := ⟨_, rfl⟩
  rw [← hw0] at hB0 pb0
  have HW0 := hide hw0.symm
  obtain ⟨B, hB⟩ : ∃ b, b = w.heap.size := ⟨_, rfl⟩
  rw [← hB] at pb0
  have HBe := hide hB.symm
  have PB := hide pb0
  have R0 := hide (HA.out.below hB0)
  have R1 := hide (HA'.out.below hB0)
  have HB0 := hide hB0
  clear hw0 hB pb0 hB0 HA HA'
  have HNO : Hid (∀ W, Below w.heap.size w W → Lo.lfB xs S K ds = false → LB14 w (Lo.lfB xs S K ds) (Lo.lfL xs S K ds) (.returned (.tuple #[.slice none 0 0, .bool false])) W) := hide fun W h e => by
    rw [e, Lo.lfL_no e]
    exact ⟨_, rfl, h, ⟨World.ownsRow_nil _ _ _ _, fun g hg => by simp [Value.ownBlock] at hg, Nat.le_refl _⟩⟩
  obtain ⟨GG, hP⟩ : ∃ G, G = Lo.lfB xs S K ds := ⟨_, rfl⟩
  obtain ⟨YY, hY⟩ : ∃ G, G = Lo.lfL xs S K ds := ⟨_, rfl⟩
  rw [← hP, ← hY] at HNO ⊢
  cases hg : Lo.goodB xs S K
  · have HG := hide hg
    have HF : Hid (GG = false) := hide (by simp [hP, Lo.lfB, hg])
    obtain ⟨p0, p1, p2, _⟩ := PB.out
    clear hg hP hY
    go_enter Try.func26, Try.ntmps26
    go_upto_region 1 with fail
    rw [HW0.out, HBe.out]
    clear HW0 HBe
    go_wp2_with fail
    refine (gt_eq HN R0 HG).mono ?_
    rintro e w1 ⟨rfl, hb1⟩
    have HB1 := hide (HB0.out.trans (hb1.mono HB0.out.size))
    clear hb1
    go_wp2_with fail
    go_ret2
    exact HNO.out _ HB1.out HF.out
  · have HG := hide hg
    have g := Lo.good_of hg
    obtain ⟨n1, n10, hall, _⟩ := g
    rw [HN.out] at n1 n10
    cases hd : Lo.dayB ds n
    · have HF : Hid (GG = false) := hide (by simp [hP, Lo.lfB, hg, HN.out, hd])
      have HD : Hid ((decide (0 < ds.length) && (ds.getD 0 0 == 0) && Ma.riseB ds n) = false) := hide hd
      obtain ⟨p0, p1, p2, _⟩ := PB.out
      clear hg hP hY hd hall
      go_enter Try.func26, Try.ntmps26
      go_upto_region 1 with fail
      rw [HW0.out, HBe.out]
      clear HW0 HBe
      go_wp2_with fail
      refine (gt_eq HN R0 HG).mono ?_
      rintro e w1 ⟨rfl, hb1⟩
      have HB1 := hide (HB0.out.trans (hb1.mono HB0.out.size))
      have R1x := hide (R1.out.below hb1)
      obtain ⟨p0, p1, p2, _⟩ := PB.out.below hb1
      clear hb1
      go_wp2_with fail
      refine (rf0_eq rfl HM hm (by omega) R1x HD).mono ?_
      rintro e w2 ⟨rfl, hw2⟩
      obtain rfl := hw2.symm
      go_wp2_with fail
      go_ret2
      exact HNO.out _ HB1.out HF.out
    · have hF : Lo.lfB xs S K ds = true := by simp [Lo.lfB, hg, HN.out, hd]
      have HD : Hid ((decide (0 < ds.length) && (ds.getD 0 0 == 0) && Ma.riseB ds n) = true) := hide hd
      have HLO := hide fun (W : World) (r0 : Hid (ARow W a xs)) (r1 : Hid (ARow W a' ds)) => lo_av (w := W) (c := c) (c' := c') HN HM n10 hm r0 r1 hall
      have HYES : Hid (∀ v W, Below w.heap.size w W → (∃ lo hi, w.heap.size ≤ lo ∧ AV W lo hi v n (Lo.lotsL xs ds)) → LB14 w GG YY (.returned (.tuple #[v, .bool true])) W) := hide fun v W h ⟨lo, hi, h1, h2⟩ => by
        rw [hP, hY, hF, Lo.lfL_yes hF]
        refine ⟨v, rfl, h, ?_⟩
        rw [Lo.lots_len, HN.out]
        exact ⟨owns_low h2.1 h1, fun g hg => by have := (h2.1.lt g hg).2; exact this, Nat.le_refl _⟩
      obtain ⟨p0, p1, p2, _⟩ := PB.out
      clear hg hP hY hd hall HNO hF
      go_enter Try.func26, Try.ntmps26
      go_upto_region 1 with fail
      rw [HW0.out, HBe.out]
      clear HW0 HBe
      go_wp2_with fail
      refine (gt_eq HN R0 HG).mono ?_
      rintro e w1 ⟨rfl, hb1⟩
      have HB1 := hide (HB0.out.trans (hb1.mono HB0.out.size))
      have R0x := hide (R0.out.below hb1)
      have R1x := hide (R1.out.below hb1)
      obtain ⟨p0, p1, p2, _⟩ := PB.out.below hb1
      clear hb1
      go_wp2_with fail
      refine (rf0_eq rfl HM hm (by omega) R1x HD).mono ?_
      rintro e w2 ⟨rfl, hw2⟩
      obtain rfl := hw2.symm
      go_wp2_with fail
      refine (HLO.out _ R0x R1x).mono ?_
      rintro e w3 ⟨b3, rfl, hb3, o3⟩
      have HB3 := hide (HB1.out.trans (hb3.mono HB1.out.size))
      have HE := hide (show ∃ lo hi, w.heap.size ≤ lo ∧ AV w3 lo hi (.slice (some ⟨b3, 0, none⟩) n n) n (Lo.lotsL xs ds) from ⟨_, _, HB1.out.size, o3⟩)
      clear hb3 o3
      go_wp2_with fail
      go_ret2
      exact HYES.out _ _ HB3.out HE.out
theorem sri_z14 {a : Option Addr} {n c q : Nat} {z : Int} {l : List Int} {w : World} {r : Bool} (hz : z = (q : Int)) (hn : Hid (l.length = n)) (hl : n ≤ 1048576) (h : Hid (ARow w a l)) (hr : Hid (Ma.riseB l q = r)) :
    Calls Try.prog 47 #[.slice a n c, .int .i64 z] w fun e w' => e = .returned (.bool r) ∧ w' = w := hz ▸ sri_eq hn hl h hr
set_option maxHeartbeats 4000000 in
theorem slf_w {a a' : Option Addr} {n c m c' : Nat} {xs ds : List Int} {S K : Int} {w : World} (HN : Hid (xs.length = n)) (HM : Hid (ds.length = m)) (hm : m ≤ 1048576) (HA : Hid (ARow w a xs)) (HA' : Hid (ARow w a' ds)) :
    Calls Try.prog 25 #[.agg #[.slice a n c, .int .i64 S, .int .i64 K], .slice a' m c'] w fun e w' => LB14 w (Lo.lfB xs S K ds) (Lo.lfL xs S K ds) e w' := by
  have hB0 := below_new w (.cells #[.slice a n c, .int .i64 S, .int .i64 K] 27)
  have pb0 := TBox.new w (.slice a n c) (.int .i64 S) (.int .i64 K) 27
  obtain ⟨w0, hw0⟩ : ∃ W, W = w.alloc (.cells #[.slice a n c, .int .i64 S, .int .i64 K] 27) := ⟨_, rfl⟩
  rw [← hw0] at hB0 pb0
  have HW0 := hide hw0.symm
  obtain ⟨B, hB⟩ : ∃ b, b = w.heap.size := ⟨_, rfl⟩
  rw [← hB] at pb0
  have HBe := hide hB.symm
  have PB := hide pb0
  have R0 := hide (HA.out.below hB0)
  have R1 := hide (HA'.out.below hB0)
  have HB0 := hide hB0
  clear hw0 hB pb0 hB0 HA HA'
  have HNO : Hid (∀ W, Below w.heap.size w W → Lo.lfB xs S K ds = false → LB14 w (Lo.lfB xs S K ds) (Lo.lfL xs S K ds) (.returned (.tuple #[.slice none 0 0, .bool false])) W) := hide fun W h e => by
    rw [e, Lo.lfL_no e]
    exact ⟨_, rfl, h, ⟨World.ownsRow_nil _ _ _ _, fun g hg => by simp [Value.ownBlock] at hg, Nat.le_refl _⟩⟩
  obtain ⟨GG, hP⟩ : ∃ G, G = Lo.lfB xs S K ds := ⟨_, rfl⟩
  obtain ⟨YY, hY⟩ : ∃ G, G = Lo.lfL xs S K ds := ⟨_, rfl⟩
  rw [← hP, ← hY] at HNO ⊢
  cases hg : Lo.goodB xs S K
  · have HG := hide hg
    have HF : Hid (GG = false) := hide (by simp [hP, Lo.lfB, hg])
    obtain ⟨p0, p1, p2, _⟩ := PB.out
    clear hg hP hY
    go_enter Try.func25, Try.ntmps25
    go_upto_region 1 with fail
    rw [HW0.out, HBe.out]
    clear HW0 HBe
    go_wp2_with fail
    refine (sgt_eq HN R0 HG).mono ?_
    rintro e w1 ⟨rfl, hb1⟩
    have HB1 := hide (HB0.out.trans (hb1.mono HB0.out.size))
    clear hb1
    go_wp2_with fail
    go_ret2
    exact HNO.out _ HB1.out HF.out
  · have HG := hide hg
    have g := Lo.good_of hg
    obtain ⟨n1, n10, hall, _⟩ := g
    rw [HN.out] at n1 n10
    cases hr : Ma.riseB ds n
    · have HF : Hid (GG = false) := hide (by simp [hP, Lo.lfB, Lo.dayB, HN.out, hr])
      have HD := hide hr
      obtain ⟨p0, p1, p2, _⟩ := PB.out
      clear hg hP hY hr hall
      go_enter Try.func25, Try.ntmps25
      go_upto_region 1 with fail
      rw [HW0.out, HBe.out]
      clear HW0 HBe
      go_wp2_with fail
      refine (sgt_eq HN R0 HG).mono ?_
      rintro e w1 ⟨rfl, hb1⟩
      have HB1 := hide (HB0.out.trans (hb1.mono HB0.out.size))
      have R1x := hide (R1.out.below hb1)
      obtain ⟨p0, p1, p2, _⟩ := PB.out.below hb1
      clear hb1
      go_wp2_with fail
      refine (sri_z14 rfl HM hm R1x HD).mono ?_
      rintro e w2 ⟨rfl, hw2⟩
      obtain rfl := hw2.symm
      go_wp2_with fail
      go_ret2
      exact HNO.out _ HB1.out HF.out
    · have HD := hide hr
      by_cases hm0 : m = 0
      · subst hm0
        have HF : Hid (GG = false) := hide (by simp [hP, Lo.lfB, Lo.dayB, HM.out])
        obtain ⟨p0, p1, p2, _⟩ := PB.out
        clear hg hP hY hr hall
        go_enter Try.func25, Try.ntmps25
        go_upto_region 1 with fail
        rw [HW0.out, HBe.out]
        clear HW0 HBe
        go_wp2_with fail
        refine (sgt_eq HN R0 HG).mono ?_
        rintro e w1 ⟨rfl, hb1⟩
        have HB1 := hide (HB0.out.trans (hb1.mono HB0.out.size))
        have R1x := hide (R1.out.below hb1)
        obtain ⟨p0, p1, p2, _⟩ := PB.out.below hb1
        clear hb1
        go_wp2_with fail
        refine (sri_z14 rfl HM hm R1x HD).mono ?_
        rintro e w2 ⟨rfl, hw2⟩
        obtain rfl := hw2.symm
        go_wp2_with fail
        go_ret2
        exact HNO.out _ HB1.out HF.out
      · have m0 : ((m : Int) == (0 : Int)) = false := by simp; omega
        have m1 : (0 : Int) < (m : Int) := by omega
        obtain ⟨b3, o3, rfl, hl3, rr3⟩ := R1.out.resolve_left (by intro e; have := HM.out; rw [e] at this; simp at this; omega)
        have HR3 : Hid (∀ W, Below w0.heap.size w0 W → W.cell? ⟨b3, o3, none⟩ = some (.int .i64 (ds.getD 0 0))) := hide fun W h => by
          have := (h.cell (p := ⟨b3, o3 + 0, none⟩) hl3).trans (rr3 0 (by rw [HM.out]; omega))
          rwa [Nat.add_zero] at this
        clear rr3
        by_cases hz : ds.getD 0 0 = 0
        · have hd : Lo.dayB ds n = true := by
            simp only [Lo.dayB, hr, HM.out, hz, beq_self_eq_true, Bool.and_true, decide_eq_true_eq]; omega
          have hF : Lo.lfB xs S K ds = true := by simp [Lo.lfB, hg, HN.out, hd]
          have HLO := hide fun (W : World) (r0 : Hid (ARow W a xs)) (r1 : Hid (ARow W (some ⟨b3, o3, none⟩) ds)) => sfor_any (w := W) (c := c) (c' := c') (S := S) (K := K) HN HM n10 hd r0 r1 hall
          have HYES : Hid (∀ v W, Below w.heap.size w W → (∃ lo hi, w.heap.size ≤ lo ∧ AV W lo hi v n (Lo.lotsL xs ds)) → LB14 w GG YY (.returned (.tuple #[v, .bool true])) W) := hide fun v W h ⟨lo, hi, h1, h2⟩ => by
            rw [hP, hY, hF, Lo.lfL_yes hF]
            refine ⟨v, rfl, h, ?_⟩
            rw [Lo.lots_len, HN.out]
            exact ⟨owns_low h2.1 h1, fun g hg => by have := (h2.1.lt g hg).2; exact this, Nat.le_refl _⟩
          rw [hz] at HR3
          obtain ⟨p0, p1, p2, _⟩ := PB.out
          clear hg hP hY hd hall HNO hF hz hr
          go_enter Try.func25, Try.ntmps25
          go_upto_region 1 with fail
          rw [HW0.out, HBe.out]
          clear HW0 HBe
          go_wp2_with fail
          refine (sgt_eq HN R0 HG).mono ?_
          rintro e w1 ⟨rfl, hb1⟩
          have HB1 := hide (HB0.out.trans (hb1.mono HB0.out.size))
          have R0x := hide (R0.out.below hb1)
          have R1x := hide (R1.out.below hb1)
          have r3 := HR3.out _ hb1
          obtain ⟨p0, p1, p2, _⟩ := PB.out.below hb1
          clear hb1
          go_wp2_with fail
          refine (sri_z14 rfl HM hm R1x HD).mono ?_
          rintro e w2 ⟨rfl, hw2⟩
          obtain rfl := hw2.symm
          go_wp2_with fail
          refine (HLO.out _ R0x R1x).mono ?_
          rintro e w3 ⟨b4, rfl, hb3, o3⟩
          have HB3 := hide (HB1.out.trans (hb3.mono HB1.out.size))
          have HE := hide (show ∃ lo hi, w.heap.size ≤ lo ∧ AV w3 lo hi (.slice (some ⟨b4, 0, none⟩) n n) n (Lo.lotsL xs ds) from ⟨_, _, HB1.out.size, o3⟩)
          clear hb3 o3
          go_wp2_with fail
          go_ret2
          exact HYES.out _ _ HB3.out HE.out
        · have HF : Hid (GG = false) := hide (by simp only [hP, Lo.lfB, Lo.dayB, beq_eq_false_iff_ne.2 hz, Bool.and_false, Bool.false_and])
          have z1 : (ds.getD 0 0 != (0 : Int)) = true := by simpa using hz
          generalize ds.getD 0 0 = z at *
          obtain ⟨p0, p1, p2, _⟩ := PB.out
          clear hg hP hY hall hr hz
          go_enter Try.func25, Try.ntmps25
          go_upto_region 1 with fail
          rw [HW0.out, HBe.out]
          clear HW0 HBe
          go_wp2_with fail
          refine (sgt_eq HN R0 HG).mono ?_
          rintro e w1 ⟨rfl, hb1⟩
          have HB1 := hide (HB0.out.trans (hb1.mono HB0.out.size))
          have R1x := hide (R1.out.below hb1)
          have r3 := HR3.out _ hb1
          obtain ⟨p0, p1, p2, _⟩ := PB.out.below hb1
          clear hb1
          go_wp2_with fail
          refine (sri_z14 rfl HM hm R1x HD).mono ?_
          rintro e w2 ⟨rfl, hw2⟩
          obtain rfl := hw2.symm
          go_wp2_with fail
          go_ret2
          exact HNO.out _ HB1.out HF.out
end Go.Proofs.Yticekgjgknfloaa
