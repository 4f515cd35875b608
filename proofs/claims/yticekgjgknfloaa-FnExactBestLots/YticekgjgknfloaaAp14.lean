/-
  BestLots of the program.
-/
import Derived.Test.YticekgjgknfloaaAo14
namespace Go.Proofs.Yticekgjgknfloaa
namespace Lo
open Lt
def blL (nd : List Int) (S K : Int) : List Int := if goodB nd S K then lotsL nd (bdL nd S K) else []
def blI (nd : List Int) (S K : Int) : Int := if goodB nd S K then T S K (fn nd) nd.length else 0
theorem blL_le {nd : List Int} {S K : Int} : (blL nd S K).length ≤ 10 := by
  cases h : goodB nd S K
  · simp [blL, h]
  · rw [blL, if_pos h, lots_len]; exact (good_of h).n10
end Lo
open Go.RowKit
/-- The days found so far: nothing, or a list of one's own. -/
def DY14 (base : Nat) (w : World) (v : Value) (acc : List Int) : Prop := (acc = [] ∧ v = .slice none 0 0) ∨ (1 ≤ acc.length ∧ ∃ b c, v = .slice (some ⟨b, 0, none⟩) acc.length c ∧ w.ownsRow base 3 1 (.slice (some ⟨b, 0, none⟩) acc.length c) acc.length (ints acc))
theorem DY14.below {base : Nat} {w w' : World} {v : Value} {acc : List Int} (h : DY14 base w v acc) (hb : Below w.heap.size w w') : DY14 base w' v acc := by
  rcases h with h | ⟨h1, b, c, h2, h3⟩
  · exact Or.inl h
  · exact Or.inr ⟨h1, b, c, h2, own_below h3 hb⟩
theorem DY14.row {base : Nat} {w : World} {v : Value} {acc : List Int} (h : DY14 base w v acc) : ∃ a c, v = .slice a acc.length c ∧ ARow w a acc := by
  rcases h with ⟨rfl, rfl⟩ | ⟨_, b, c, h2, h3⟩
  · exact ⟨none, 0, rfl, Or.inl rfl⟩
  · exact ⟨_, c, h2, arow_owns rfl h3⟩
theorem ins_dy {W : World} {base : Nat} {v : Value} {acc : List Int} {x : Int} (h : DY14 base W v acc) (hb : base ≤ W.heap.size) (hl : acc.length ≤ 100) :
    Calls Try.prog 43 #[v, .int .i64 0, .slice (some ⟨W.heap.size, 0, none⟩) 1 1] (W.alloc (.cells #[.int .i64 x] 3)) fun e w' =>
      ∃ b' c', e = .returned (.slice (some ⟨b', 0, none⟩) (acc.length + 1) c') ∧ w'.ownsRow base 3 1 (.slice (some ⟨b', 0, none⟩) (acc.length + 1) c') (acc.length + 1) (ints (x :: acc)) ∧ Below base W w' := by
  rcases h with ⟨rfl, rfl⟩ | ⟨h1, b, c, rfl, h3⟩
  · exact ins14_0 hb
  · exact ins14 h3 rfl h1 (by omega) hb
set_option maxHeartbeats 8000000 in
theorem bl_w {a : Option Addr} {n c : Nat} {xs : List Int} {S K : Int} {w : World} (hc : n ≤ c) (HN : Hid (xs.length = n)) (HA : Hid (ARow w a xs)) :
    Calls Try.prog 19 #[.agg #[.slice a n c, .int .i64 S, .int .i64 K]] w fun e w' => ∃ v, e = .returned (.tuple #[v, .int .i64 (Lo.blI xs S K), .bool (Lo.goodB xs S K)]) ∧ Below w.heap.size w w' ∧ AV w' w.heap.size w'.heap.size v (Lo.blL xs S K).length (Lo.blL xs S K) := by
  have hB0 := below_new w (.cells #[.slice a n c, .int .i64 S, .int .i64 K] 27)
  have pb0 := TBox.new w (.slice a n c) (.int .i64 S) (.int .i64 K) 27
  obtain ⟨w0, hw0⟩ : ∃ W, W = w.alloc (.cells #[.slice a n c, .int .i64 S, .int .i64 K] 27) := ⟨_, rfl⟩
  rw [← hw0] at hB0 pb0
  have HW0 := hide hw0.symm
  obtain ⟨B, hB⟩ : ∃ b, b = w.heap.size := ⟨_, rfl⟩
  rw [← hB] at pb0
  have HBe := hide hB.symm
  have PB := hide pb0
  have R0 := hide (HA.out.below hB0)
  have HB0 := hide hB0
  clear hw0 hB pb0 hB0 HA
  obtain ⟨YY, hY⟩ : ∃ G, G = Lo.blL xs S K := ⟨_, rfl⟩
  obtain ⟨II, hI⟩ : ∃ G, G = Lo.blI xs S K := ⟨_, rfl⟩
  rw [← hY, ← hI]
  cases hg : Lo.goodB xs S K
  · have HG := hide hg
    have HNO : Hid (∀ W, Below w.heap.size w W → ∃ v, Ending.returned (.tuple #[.slice none 0 0, .int .i64 0, .bool false]) = .returned (.tuple #[v, .int .i64 II, .bool false]) ∧ Below w.heap.size w W ∧ AV W w.heap.size W.heap.size v YY.length YY) := hide fun W h => by
      rw [hY, hI, Lo.blL, Lo.blI, hg]
      exact ⟨_, rfl, h, av_nil14 _ _⟩
    obtain ⟨p0, p1, p2, _⟩ := PB.out
    clear hg hY hI
    go_enter Try.func19, Try.ntmps19
    go_upto_region 1 with fail
    rw [HW0.out, HBe.out]
    clear HW0 HBe
    go_wp2_with fail
    refine (gt_eq HN R0 HG).mono ?_
    rintro e w1 ⟨rfl, hb1⟩
    have HB1 := hide (HB0.out.trans (hb1.mono HB0.out.size))
    clear hb1
    go_wp2_with fail
    exact bodyPost_ret (v := .tuple #[.slice none 0 0, .int .i64 0, .bool false]) (by simp [results, Try.results19, go_sem]) rfl (HNO.out _ HB1.out)
  · have HG := hide hg
    have g := Lo.good_of hg
    obtain ⟨n1, n10, hall, s0, s1, k0, k1⟩ := g
    rw [HN.out] at n1 n10
    have HYES : Hid (∀ v W, Below w.heap.size w W → (∃ lo hi, w.heap.size ≤ lo ∧ AV W lo hi v n (Lo.lotsL xs (Lo.bdL xs S K))) → ∃ v', Ending.returned (.tuple #[v, .int .i64 (Lt.T S K (Lo.fn xs) n), .bool true]) = .returned (.tuple #[v', .int .i64 II, .bool true]) ∧ Below w.heap.size w W ∧ AV W w.heap.size W.heap.size v' YY.length YY) := hide fun v W h ⟨lo, hi, h1, h2⟩ => by
      rw [hY, hI, Lo.blL, Lo.blI, if_pos hg, if_pos hg, HN.out]
      refine ⟨v, rfl, h, ?_⟩
      rw [Lo.lots_len, HN.out]
      exact ⟨owns_low h2.1 h1, fun g hg => by have := (h2.1.lt g hg).2; exact this, Nat.le_refl _⟩
    have HLT := hide fun (W : World) (r : Hid (ARow W a xs)) => lt14_any (w := W) (c := c) s0 s1 k0 k1 HN n10 hc r hall
    have HTL : Hid ((Lt.tab S K (Lo.fn xs) n).length = n + 1) := hide (Lt.tab_len S K (Lo.fn xs) n)
    have HLA := hide fun (W : World) (r : Hid (ARow W a xs)) (t : Nat) (ht1 : 1 ≤ t) (ht : t ≤ n) (aT : Option Addr) (cT : Nat) (rT : Hid (ARow W aT (Lt.tab S K (Lo.fn xs) n))) => ll14_any (w := W) (c := c) (cT := cT) s0 s1 k0 k1 HN n10 hc ht1 ht HTL (by omega) (hide fun d hd => Lo.tab_at (by omega)) r rT hall
    have HLO := hide fun (W : World) (r : Hid (ARow W a xs)) (ds : List Int) (hds : ds.length ≤ 100) (a' : Option Addr) (c' : Nat) (r' : ARow W a' ds) => lo_av (w := W) (c := c) (c' := c') (m := ds.length) HN (hide rfl) n10 (by omega) r (hide r') hall
    have HBD : Hid (∀ t acc, 0 < t → Lo.bd S K (Lo.fn xs) t acc = Lo.bdL xs S K → Lo.bd S K (Lo.fn xs) (Lo.last S K (Lo.fn xs) t) (((Lo.last S K (Lo.fn xs) t : Nat) : Int) :: acc) = Lo.bdL xs S K ∧ Lo.last S K (Lo.fn xs) t < t) := hide fun t acc h0 h => ⟨by rw [← h, Lo.bd_pos h0], Lo.last_lt h0⟩
    have HBS : Hid (Lo.bd S K (Lo.fn xs) n [] = Lo.bdL xs S K) := hide (by unfold Lo.bdL; rw [HN.out])
    have HBZ : Hid (∀ acc, Lo.bd S K (Lo.fn xs) 0 acc = Lo.bdL xs S K → acc = Lo.bdL xs S K) := hide fun acc h => by rw [← h, Lo.bd_zero]
    have HTN := hide (Lo.tab_at (S := S) (K := K) (nd := Lo.fn xs) (Nat.le_refl n))
    obtain ⟨p0, p1, p2, _⟩ := PB.out
    clear hg hY hI hall s0 s1 k0 k1
    go_enter Try.func19, Try.ntmps19
    go_upto_region 1 with fail
    rw [HW0.out, HBe.out]
    clear HW0 HBe
    go_wp2_with fail
    refine (gt_eq HN R0 HG).mono ?_
    rintro e w1 ⟨rfl, hb1⟩
    have HU1 : Hid (Below w0.heap.size w0 w1) := hide hb1
    have R1 := hide (R0.out.below hb1)
    obtain ⟨p0, p1, p2, _⟩ := PB.out.below hb1
    clear hb1
    go_wp2_with fail
    refine (HLT.out _ R1).mono ?_
    rintro e w2 ⟨bT, cT, rfl, hb2, o2⟩
    have HU2 := hide (HU1.out.trans (hb2.mono HU1.out.size))
    have HB2 := hide (HB0.out.trans (HU2.out.mono HB0.out.size))
    have RT := hide (arow_owns HTL.out.symm o2.1)
    obtain ⟨p0, p1, p2, hBw⟩ := PB.out.below HU2.out
    have P2 := hide (PB.out.below HU2.out)
    have R2 := hide (R0.out.below HU2.out)
    have hz2 : w.heap.size ≤ w2.heap.size := HB2.out.size
    clear hb2 o2 R1 HU1
    go_wp2_with fail
    clear p0 p1 p2
    go_loopw [6, 7] (fun s6 s7 wr => ∃ (t : Nat) (acc : List Int), s7 = .int .i64 t ∧ t ≤ n ∧ acc.length + t ≤ n ∧ Hid (Lo.bd S K (Lo.fn xs) t acc = Lo.bdL xs S K) ∧ Hid (DY14 w2.heap.size wr s6 acc) ∧ Hid (Below w2.heap.size w2 wr)) (fun _ s7 _ => (intOf s7).toNat)
    case atStart => exact ⟨n, [], rfl, Nat.le_refl _, by simp, HBS, hide (Or.inl ⟨rfl, rfl⟩), hide (Below.refl _ _)⟩
    case round =>
      clear HBS
      obtain ⟨t, acc, rfl, htn, hlen, HBd, HD, HB⟩ := hrel
      obtain ⟨p0, p1, p2, _⟩ := P2.out.below HB.out
      by_cases h0 : 0 < t
      · have i0 : (0 : Int) < (t : Int) := by omega
        obtain ⟨hn1, hn2⟩ := HBD.out t acc h0 HBd.out
        have HN1 := hide hn1
        have HCall := hide (HLA.out wr (hide (R2.out.below HB.out)) t h0 htn _ cT (hide (RT.out.below HB.out)))
        generalize Lo.last S K (Lo.fn xs) t = l at *
        clear hn1
        go_wp2_with fail
        refine HCall.out.mono ?_
        rintro e w3 ⟨rfl, hb3⟩
        have HD3 := hide (HD.out.below hb3)
        have HB3 := hide (HB.out.trans (hb3.mono HB.out.size))
        have HINS := hide (ins_dy (x := (l : Int)) HD3.out HB3.out.size (by omega))
        clear hb3 HD
        go_wp2_with fail
        refine HINS.out.mono ?_
        rintro e w4 ⟨b4, c4, rfl, own4, hb4⟩
        have HB4 := hide (HB3.out.trans hb4)
        have HD4 : Hid (DY14 w2.heap.size w4 (.slice (some ⟨b4, 0, none⟩) (acc.length + 1) c4) ((l : Int) :: acc)) := hide (Or.inr ⟨by simp, b4, c4, rfl, own4⟩)
        have c0 : w4.cell? ⟨b4, 0, none⟩ = some (.int .i64 (l : Int)) := by rw [own4.cellAt 0 (by omega)]; rfl
        have l0 : (0 : Int) < ((acc.length + 1 : Nat) : Int) := by omega
        have l2 : ((l : Int) :: acc).length + l ≤ n := by simp only [List.length_cons]; omega
        clear own4 hb4 HINS HD3
        go_wp2_with fail
        exact ⟨⟨l, _, rfl, by omega, l2, HN1, HD4, HB4⟩, by simp only [intOf]; omega⟩
      · have ht0 : t = 0 := by omega
        subst ht0
        obtain rfl := HBZ.out acc HBd.out
        obtain ⟨a6, c6, rfl, r6⟩ := HD.out.row
        have HLQ := hide (HLO.out wr (hide (R2.out.below HB.out)) (Lo.bdL xs S K) (by omega) a6 c6 r6)
        have HCT : Hid (∀ W, Below w2.heap.size w2 W → W.cell? ⟨bT, n, none⟩ = some (.int .i64 (Lt.T S K (Lo.fn xs) n))) := hide fun W h => by
          obtain ⟨b7, o7, e7, r7⟩ := (RT.out.below h).at (i := n) (by rw [HTL.out]; omega)
          cases e7
          rw [Nat.zero_add] at r7
          rw [r7, HTN.out]
        have HST : Hid (∀ W1 W2, Below w2.heap.size w2 W1 → Below W1.heap.size W1 W2 → W2.cell? ⟨B, 0, none⟩ = some (.slice a n c) ∧ W2.cell? ⟨bT, n, none⟩ = some (.int .i64 (Lt.T S K (Lo.fn xs) n)) ∧ Below w2.heap.size w2 W2) := hide fun W1 W2 h1 h2 => by
          have h := h1.trans (h2.mono h1.size)
          exact ⟨(P2.out.below h).1, HCT.out _ h, h⟩
        have hS0 := HST.out wr wr.drew HB.out (Below.refl _ _).drew
        have j0 : (0 : Int) ≤ (n : Int) := by omega
        have j1 : (n : Int) < (n : Int) + 1 := by omega
        have j2 : (n : Int) < ((n + 1 : Nat) : Int) := by omega
        have HDW := hide (HLO.out wr.drew (hide (R2.out.below HB.out.drew)) (Lo.bdL xs S K) (by omega) a6 c6 r6)
        clear p0 p1 p2 r6 HLQ
        go_wp2_with fail
        go_region_held3 (fun w' => w'.cell? ⟨B, 0, none⟩ = some (.slice a n c) ∧ w'.cell? ⟨bT, n, none⟩ = some (.int .i64 (Lt.T S K (Lo.fn xs) n)) ∧ Below w2.heap.size w2 w')
          (first | exact hS0 | assumption | fail)
          (first
          | (go_at_call 45; obtain ⟨_, _, hbS⟩ := ‹_ ∧ _ ∧ _›; refine HDW.out.mono ?_; rintro e w4 ⟨b4, rfl, hb4, o4⟩; have HE := hide (show ∃ lo hi, w.heap.size ≤ lo ∧ AV w4 lo hi (.slice (some ⟨b4, 0, none⟩) n n) n (Lo.lotsL xs (Lo.bdL xs S K)) from ⟨_, _, Nat.le_trans hz2 hbS.size, o4⟩); clear o4; have hS4 := HST.out _ _ hbS hb4)
          | fail)
        obtain ⟨_, _, hbE⟩ := ‹_ ∧ _ ∧ _›
        have HBE := hide (HB2.out.trans (hbE.mono HB2.out.size))
        clear hbE hb4 hbS hS4 hS0
        go_wp2_with fail
        exact bodyPost_ret (v := .tuple #[.slice (some ⟨b4, 0, none⟩) n n, .int .i64 (Lt.T S K (Lo.fn xs) n), .bool true]) (by simp [results, Try.results19, go_sem]) rfl (HYES.out _ _ HBE.out HE.out)
end Go.Proofs.Yticekgjgknfloaa
