/-
  BestLots of the model.
-/
import Derived.Test.YticekgjgknfloaaAp14
import Derived.Test.YticekgjgknfloaaAm14
import Derived.Test.YticekgjgknfloaaAf14
namespace Go.Proofs.Yticekgjgknfloaa
open Go.RowKit

theorem own_at14b {w : World} {lo n : Nat} {v : Value} {xs : List Value} (h : w.ownsRow lo 3 1 v n xs) (h1 : 1 ≤ n) : ∃ b c, v = .slice (some ⟨b, 0, none⟩) n c := by
  rcases h.2 with ⟨rfl, h0⟩ | ⟨g, cap, cur, rfl, _⟩
  · omega
  · exact ⟨g, cap, rfl⟩
theorem dy_own14 {base : Nat} {w : World} {v : Value} {acc : List Int} (h1 : 1 ≤ acc.length) (h : w.ownsRow base 3 1 v acc.length (ints acc)) : DY14 base w v acc := by
  obtain ⟨b, c, rfl⟩ := own_at14b h h1
  exact Or.inr ⟨h1, b, c, rfl, h⟩
theorem pre_int14 {W : World} {base : Nat} {a : Option Addr} {n c : Nat} {acc : List Int} {x : Int} (h : DY14 base W (.slice a n c) acc) (hb : base ≤ W.heap.size) (hl : acc.length ≤ 100) :
    ∃ v' w', (∀ ty, (Builtin.append_ #[22, 22] ty #[.slice (some ⟨W.heap.size, 0, none⟩) 1 1, .slice a n c]).run Try.prog (W.alloc (.cells #[.int .i64 x] 3)) = .ok v' w') ∧ w'.ownsRow base 3 1 v' (acc.length + 1) (ints (x :: acc)) ∧ Below base W w' := by
  obtain ⟨i0', hi', hz0, hz1, hz2⟩ := infoI
  obtain ⟨a', c', e, r⟩ := h.row
  cases e
  have hlit := World.ownsRow_lit (base := base) (e := 3) (size := 1) W #[.int .i64 x] 1 hb (by unfold maxLen; omega) (by simp)
  obtain ⟨v', w', h1, h2, h3⟩ := run_append_v (P := Try.prog) (W.alloc (.cells #[.int .i64 x] 3)) base 22 0 3 i0' _ 8 Try.underlying22 hi' hz0 hz1 hz2 rfl _ 1 _ hlit a acc.length c (ints acc) (by rw [ints_len]) (r.alloc _).vrow (fun u hu => by simp only [ints, List.mem_map] at hu; obtain ⟨_, _, rfl⟩ := hu; rfl) (by unfold maxLen; omega) (by omega) (by simp; omega)
  rw [Nat.add_comm] at h2
  exact ⟨v', w', fun _ => h1, h2, ((below_new W _).mono hb).trans (grown_under10 h3 (fun b e => by simp [Value.ownBlock] at e; omega) (by simp; omega))⟩
set_option maxHeartbeats 8000000 in
theorem sbl_w {a : Option Addr} {n c : Nat} {xs : List Int} {S K : Int} {w : World} (HN : Hid (xs.length = n)) (HA : Hid (ARow w a xs)) :
    Calls Try.prog 18 #[.agg #[.slice a n c, .int .i64 S, .int .i64 K]] w fun e w' => ∃ v, e = .returned (.tuple #[v, .int .i64 (Lo.blI xs S K), .bool (Lo.goodB xs S K)]) ∧ Below w.heap.size w w' ∧ AV w' w.heap.size w'.heap.size v (Lo.blL xs S K).length (Lo.blL xs S K) := by
  have hB0 := below_new w (.cells #[.slice a n c, .int .i64 S, .int .i64 K] 27)
  have pb0 := TBox.new w (.slice a n c) (.int .i64 S) (.int .i64 K) 27
  obtain ⟨w0, hw0⟩ : ∃ W, W = w.alloc (.cells #[.slice a n c, .int .i64 S, .int .i64 K] 27) := ⟨_, rfl⟩
  rw [← hw0] at hB0 pb0
  have HW0 := hide hw0.symm
  obtain ⟨B, hB⟩ : ∃ b, b = w.heap.size := ⟨_, rfl⟩
  rw [← hB] at pb0
  have HBe := hide hB.symm
  have PB := hide pb0
  have R0 := hide (HA.out.below hB0)
  have HB0 := hide hB0
  clear hw0 hB pb0 hB0 HA
  obtain ⟨YY, hY⟩ : ∃ G, G = Lo.blL xs S K := ⟨_, rfl⟩
  obtain ⟨II, hI⟩ : ∃ G, G = Lo.blI xs S K := ⟨_, rfl⟩
  rw [← hY, ← hI]
  cases hg : Lo.goodB xs S K
  · have HG := hide hg
    have HNO : Hid (∀ W, Below w.heap.size w W → ∃ v, Ending.returned (.tuple #[.slice none 0 0, .int .i64 0, .bool false]) = .returned (.tuple #[v, .int .i64 II, .bool false]) ∧ Below w.heap.size w W ∧ AV W w.heap.size W.heap.size v YY.length YY) := hide fun W h => by
      rw [hY, hI, Lo.blL, Lo.blI, hg]
      exact ⟨_, rfl, h, av_nil14 _ _⟩
    obtain ⟨p0, p1, p2, _⟩ := PB.out
    clear hg hY hI
    go_enter Try.func18, Try.ntmps18
    go_upto_region 1 with fail
    rw [HW0.out, HBe.out]
    clear HW0 HBe
    go_wp2_with fail
    refine (sgt_eq HN R0 HG).mono ?_
    rintro e w1 ⟨rfl, hb1⟩
    have HB1 := hide (HB0.out.trans (hb1.mono HB0.out.size))
    clear hb1
    go_wp2_with fail
    exact bodyPost_ret (v := .tuple #[.slice none 0 0, .int .i64 0, .bool false]) (by simp [results, Try.results18, go_sem]) rfl (HNO.out _ HB1.out)
  · have HG := hide hg
    have g := Lo.good_of hg
    have g0 := g
    obtain ⟨n1, n10, hall, s0, s1, k0, k1⟩ := g
    rw [HN.out] at n1 n10
    have HYES : Hid (∀ v W, Below w.heap.size w W → (∃ lo hi, w.heap.size ≤ lo ∧ AV W lo hi v n (Lo.lotsL xs (Lo.bdL xs S K))) → ∃ v', Ending.returned (.tuple #[v, .int .i64 (Lt.T S K (Lo.fn xs) n), .bool true]) = .returned (.tuple #[v', .int .i64 II, .bool true]) ∧ Below w.heap.size w W ∧ AV W w.heap.size W.heap.size v' YY.length YY) := hide fun v W h ⟨lo, hi, h1, h2⟩ => by
      rw [hY, hI, Lo.blL, Lo.blI, if_pos hg, if_pos hg, HN.out]
      refine ⟨v, rfl, h, ?_⟩
      rw [Lo.lots_len, HN.out]
      exact ⟨owns_low h2.1 h1, fun g hg => by have := (h2.1.lt g hg).2; exact this, Nat.le_refl _⟩
    have HLT := hide fun (W : World) (r : Hid (ARow W a xs)) => slt14_any (w := W) (c := c) s0 s1 k0 k1 HN n10 r hall
    have HTL : Hid ((Lt.tab S K (Lo.fn xs) n).length = n + 1) := hide (Lt.tab_len S K (Lo.fn xs) n)
    have HP : ∀ i, i < n → 0 ≤ Lo.fn xs i ∧ Lo.fn xs i ≤ 20 := fun k hk => Pf.inB_yes (Pf.allB_get hall (show k < xs.length by rw [HN.out]; exact hk))
    have HTB := hide fun (d : Nat) (hd : d ≤ n) => Lo.T_bd n10 s0 s1 k0 k1 HP d hd
    have HOB := hide fun (d t : Nat) (ht : t ≤ n) => Lo.one_bd n10 s0 s1 k0 k1 HP (d := d) ht
    have HOne := hide fun (W : World) (r : Hid (ARow W a xs)) (d t : Nat) (h1 : d ≤ t) (ht : t ≤ n) => so14_any (w := W) (c := c) (d := d) (t := t) s0 s1 k0 k1 HN n10 h1 ht r hall
    have hDD : Lo.dayB (Lo.bdL xs S K) n = true := by rw [← HN.out]; exact Lo.bdL_days (by rw [HN.out]; exact n1)
    have HFor := hide fun (W : World) (r : Hid (ARow W a xs)) (a' : Option Addr) (c' : Nat) (r' : ARow W a' (Lo.bdL xs S K)) => sfor_any (w := W) (c := c) (c' := c') (S := S) (K := K) (m := (Lo.bdL xs S K).length) HN (hide rfl) n10 hDD r (hide r') hall
    have hok := Lo.lots_ok (nd := xs) (days := Lo.bdL xs S K) hg
    have hBC := Lo.best_cost g0
    rw [HN.out] at hBC
    have hok2 := hok
    simp only [Lo.okB, Lo.lotsB, Bool.and_eq_true, decide_eq_true_eq] at hok2
    have HLL : Hid ((Lo.lotsL xs (Lo.bdL xs S K)).length = n) := hide (by rw [Lo.lots_len, HN.out])
    have hsc : sc14 S K xs (Lo.lotsL xs (Lo.bdL xs S K)) n = Lt.T S K (Lo.fn xs) n := by rw [sc14, if_pos hok2.2, hBC]
    have HSC := hide fun (W : World) (r : Hid (ARow W a xs)) (a' : Option Addr) (r' : ARow W a' (Lo.lotsL xs (Lo.bdL xs S K))) => sc14_any (w := W) (c := c) (c' := n) s0 s1 k0 k1 HN HLL n10 r (hide r') hall hok2.1.2.2
    rw [hsc] at HSC
    have HGO := hide fun (t d : Nat) (h0 : 0 < t) (hl : Lo.dn S K (Lo.fn xs) t d = Lo.last S K (Lo.fn xs) t) (h : Lo.at_ S K (Lo.fn xs) t d ≠ Lt.T S K (Lo.fn xs) t) => Lo.dn_go h0 hl h
    have HSTOP := hide fun (t d : Nat) (h : Lo.at_ S K (Lo.fn xs) t d = Lt.T S K (Lo.fn xs) t) => Lo.dn_stop (S := S) (K := K) (nd := Lo.fn xs) h
    have HBD : Hid (∀ t acc, 0 < t → Lo.bd S K (Lo.fn xs) t acc = Lo.bdL xs S K → Lo.bd S K (Lo.fn xs) (Lo.last S K (Lo.fn xs) t) (((Lo.last S K (Lo.fn xs) t : Nat) : Int) :: acc) = Lo.bdL xs S K ∧ Lo.last S K (Lo.fn xs) t < t) := hide fun t acc h0 h => ⟨by rw [← h, Lo.bd_pos h0], Lo.last_lt h0⟩
    have HBS : Hid (Lo.bd S K (Lo.fn xs) n [] = Lo.bdL xs S K) := hide (by unfold Lo.bdL; rw [HN.out])
    have HBZ : Hid (∀ acc, Lo.bd S K (Lo.fn xs) 0 acc = Lo.bdL xs S K → acc = Lo.bdL xs S K) := hide fun acc h => by rw [← h, Lo.bd_zero]
    obtain ⟨p0, p1, p2, _⟩ := PB.out
    clear hg hY hI hall s0 s1 k0 k1 HP hDD hok hok2 hBC hsc g0
    go_enter Try.func18, Try.ntmps18
    go_upto_region 1 with fail
    rw [HW0.out, HBe.out]
    clear HW0 HBe
    go_wp2_with fail
    refine (sgt_eq HN R0 HG).mono ?_
    rintro e w1 ⟨rfl, hb1⟩
    have HU1 : Hid (Below w0.heap.size w0 w1) := hide hb1
    have R1 := hide (R0.out.below hb1)
    obtain ⟨p0, p1, p2, _⟩ := PB.out.below hb1
    clear hb1
    go_wp2_with fail
    refine (HLT.out _ R1).mono ?_
    rintro e w2 ⟨bT, cT, rfl, hb2, o2⟩
    have HU2 := hide (HU1.out.trans (hb2.mono HU1.out.size))
    have HB2 := hide (HB0.out.trans (HU2.out.mono HB0.out.size))
    have RT := hide (arow_owns HTL.out.symm o2.1)
    obtain ⟨p0, p1, p2, hBw⟩ := PB.out.below HU2.out
    have P2 := hide (PB.out.below HU2.out)
    have R2 := hide (R0.out.below HU2.out)
    have hz2 : w.heap.size ≤ w2.heap.size := HB2.out.size
    have HCT : Hid (∀ W, Below w2.heap.size w2 W → ∀ d, d ≤ n → W.cell? ⟨bT, d, none⟩ = some (.int .i64 (Lt.T S K (Lo.fn xs) d))) := hide fun W h d hd => by
      obtain ⟨b7, o7, e7, r7⟩ := (RT.out.below h).at (i := d) (by rw [HTL.out]; omega)
      cases e7
      rw [Nat.zero_add] at r7
      rw [r7, Lo.tab_at hd]
    clear hb2 o2 R1 HU1
    go_wp2_with fail
    clear p0 p1 p2
    go_loopw [6, 7, 8] (fun s6 s7 _ wr => ∃ (t : Nat) (acc : List Int), s7 = .int .i64 t ∧ t ≤ n ∧ acc.length + t ≤ n ∧ Hid (Lo.bd S K (Lo.fn xs) t acc = Lo.bdL xs S K) ∧ Hid (DY14 w2.heap.size wr s6 acc) ∧ Hid (Below w2.heap.size w2 wr)) (fun _ s7 _ _ => (intOf s7).toNat)
    case atStart => exact ⟨n, [], rfl, Nat.le_refl _, by simp, HBS, hide (Or.inl ⟨rfl, rfl⟩), hide (Below.refl _ _)⟩
    case round =>
      clear HBS
      obtain ⟨t, acc, rfl, htn, hlen, HBd, HD, HB⟩ := hrel
      obtain ⟨p0, p1, p2, _⟩ := P2.out.below HB.out
      by_cases h0 : 0 < t
      · have i0 : (0 : Int) < (t : Int) := by omega
        obtain ⟨hn1, hn2⟩ := HBD.out t acc h0 HBd.out
        have HN1 := hide hn1
        clear hn1
        obtain ⟨aD, cD, rfl, rD⟩ := HD.out.row
        clear rD
        obtain ⟨w3, hw3⟩ : ∃ W, W = wr := ⟨_, rfl⟩
        subst hw3
        go_wp2_with fail
        clear p0 p1 p2
        go_loopw [8] (fun s8 wr => ∃ (d : Nat), s8 = .int .i64 d ∧ d < t ∧ Hid (Lo.dn S K (Lo.fn xs) t d = Lo.last S K (Lo.fn xs) t) ∧ Hid (Below w3.heap.size w3 wr)) (fun s8 _ => (intOf s8).toNat)
        case atStart => exact ⟨t - 1, by congr 1; omega, by omega, hide rfl, hide (Below.refl _ _)⟩
        case round =>
          obtain ⟨d, rfl, hdt, HDn, HBd2⟩ := hrel
          have HU := hide (HB.out.trans (HBd2.out.mono HB.out.size))
          have j0 : (0 : Int) ≤ (d : Int) := by omega
          have j1 : (d : Int) < (n : Int) + 1 := by omega
          have j2 : (d : Int) < ((n + 1 : Nat) : Int) := by omega
          have j3 : (0 : Int) ≤ (t : Int) := by omega
          have j4 : (t : Int) < (n : Int) + 1 := by omega
          have j5 : (t : Int) < ((n + 1 : Nat) : Int) := by omega
          have HG1 := hide (HGO.out t d h0 HDn.out)
          have HS1 := hide (HSTOP.out t d)
          obtain ⟨u0, u1⟩ := HTB.out d (by omega)
          obtain ⟨v0, v1⟩ := HOB.out d t htn
          have HC1 := hide fun (W : World) (h : Below w2.heap.size w2 W) => HCT.out W h d (by omega)
          have HC2 := hide fun (W : World) (h : Below w2.heap.size w2 W) => HCT.out W h t htn
          have HOd := hide fun (W : World) (h : Below w2.heap.size w2 W) => HOne.out W (hide (R2.out.below h)) d t (by omega) htn
          have HAT : Hid (Lo.at_ S K (Lo.fn xs) t d = Lt.T S K (Lo.fn xs) d + Lt.one S K (Lo.fn xs) d t) := hide rfl
          rw [HAT.out] at HG1 HS1
          generalize Lt.T S K (Lo.fn xs) d = X at *
          generalize Lt.one S K (Lo.fn xs) d t = Y at *
          generalize Lt.T S K (Lo.fn xs) t = Z at *
          have e1 : IntKind.i64.wrap (X + Y) = X + Y := by rw [IntKind.wrap_i64]; omega
          have HSS : Hid (∀ W1 W2, Below w3.heap.size w3 W1 → Below W1.heap.size W1 W2 → W2.cell? ⟨B, 0, none⟩ = some (.slice a n c) ∧ W2.cell? ⟨B, 1, none⟩ = some (.int .i64 S) ∧ W2.cell? ⟨B, 2, none⟩ = some (.int .i64 K) ∧ W2.cell? ⟨bT, d, none⟩ = some (.int .i64 X) ∧ W2.cell? ⟨bT, t, none⟩ = some (.int .i64 Z) ∧ Below w3.heap.size w3 W2) := hide fun W1 W2 h1 h2 => by
            have h := h1.trans (h2.mono h1.size)
            have h' := HB.out.trans (h.mono HB.out.size)
            obtain ⟨x0, x1, x2, _⟩ := P2.out.below h'
            exact ⟨x0, x1, x2, HC1.out _ h', HC2.out _ h', h⟩
          have hS0 := HSS.out wr wr.drew HBd2.out (Below.refl _ _).drew
          have HQ : Hid (∀ W, Below w3.heap.size w3 W → Below w2.heap.size w2 W) := hide fun W h => HB.out.trans (h.mono HB.out.size)
          clear HC1 HC2
          go_wp2_with fail
          go_region_held3 (fun w' => w'.cell? ⟨B, 0, none⟩ = some (.slice a n c) ∧ w'.cell? ⟨B, 1, none⟩ = some (.int .i64 S) ∧ w'.cell? ⟨B, 2, none⟩ = some (.int .i64 K) ∧ w'.cell? ⟨bT, d, none⟩ = some (.int .i64 X) ∧ w'.cell? ⟨bT, t, none⟩ = some (.int .i64 Z) ∧ Below w3.heap.size w3 w')
            (first | exact hS0 | assumption | fail)
            (first
            | (go_at_call 40; obtain ⟨_, _, _, _, _, hbS⟩ := ‹_ ∧ _ ∧ _ ∧ _ ∧ _ ∧ _›; refine (HOd.out _ (HQ.out _ hbS)).mono ?_; rintro e w4 ⟨rfl, hb4⟩; have hS4 := HSS.out _ _ hbS hb4)
            | fail)
          obtain ⟨_, _, _, _, _, hbE⟩ := ‹_ ∧ _ ∧ _ ∧ _ ∧ _ ∧ _›
          have HBE := hide hbE
          clear hbE hb4 hbS hS4 hS0
          by_cases hxy : X + Y = Z
          · have hxx : (X + Y != Z) = false := by simpa using hxy
            have HLs : Hid (Lo.last S K (Lo.fn xs) t = d) := hide (by rw [← HDn.out]; exact HS1.out hxy)
            rw [HLs.out] at HN1 hn2
            have HB4 := hide (HQ.out _ HBE.out)
            obtain ⟨v', w', hr, own', hbw⟩ := pre_int14 (x := (d : Int)) (HD.out.below HBE.out) HB4.out.size (by omega)
            have HD' : Hid (DY14 w2.heap.size w' v' ((d : Int) :: acc)) := hide (dy_own14 (by simp) (by simpa using own'))
            have HB' := hide (HB4.out.trans hbw)
            have l2 : ((d : Int) :: acc).length + d ≤ n := by simp only [List.length_cons]; omega
            clear own' hbw hxy
            go_wp2_with (first | (at_builtin; refine Lib.wpList_append_run _ rfl _ _ _ _ rfl _ _ rfl rfl _ _ (hr _) ?_))
            exact ⟨⟨d, _, rfl, by omega, l2, HN1, HD', HB'⟩, by simp only [intOf]; omega⟩
          · have hxx : (X + Y != Z) = true := by simpa using hxy
            obtain ⟨d1, hd1⟩ := HG1.out hxy
            have HD1 := hide hd1
            clear hd1
            go_wp2_with fail
            go_roundw
            case rel => exact ⟨d - 1, by first | (congr 1; omega) | go_num, by omega, HD1, HBE⟩
            case measure => simp only [intOf]; omega
      · have ht0 : t = 0 := by omega
        subst ht0
        obtain rfl := HBZ.out acc HBd.out
        obtain ⟨a6, c6, rfl, r6⟩ := HD.out.row
        have HFq := hide (HFor.out wr (hide (R2.out.below HB.out)) a6 c6 r6)
        clear r6
        go_wp2_with fail
        refine HFq.out.mono ?_
        rintro e w4 ⟨b4, rfl, hb4, o4⟩
        have HB4 := hide (HB.out.trans (hb4.mono HB.out.size))
        have R4 := hide (R2.out.below HB4.out)
        have RL := hide (arow_owns HLL.out.symm o4.1)
        have O4 := hide o4
        have hzb : w.heap.size ≤ wr.heap.size := Nat.le_trans hz2 HB.out.size
        obtain ⟨p0, p1, p2, _⟩ := P2.out.below HB4.out
        clear hb4 o4
        go_wp2_with fail
        refine (HSC.out _ R4 _ RL.out).mono ?_
        rintro e w5 ⟨rfl, hb5⟩
        have HBE := hide (HB2.out.trans ((HB4.out.trans (hb5.mono HB4.out.size)).mono HB2.out.size))
        have HE := hide (show ∃ lo hi, w.heap.size ≤ lo ∧ AV w5 lo hi (.slice (some ⟨b4, 0, none⟩) n n) n (Lo.lotsL xs (Lo.bdL xs S K)) from ⟨_, _, hzb, O4.out.below hb5⟩)
        clear hb5
        go_wp2_with fail
        exact bodyPost_ret (v := .tuple #[.slice (some ⟨b4, 0, none⟩) n n, .int .i64 (Lt.T S K (Lo.fn xs) n), .bool true]) (by simp [results, Try.results18, go_sem]) rfl (HYES.out _ _ HBE.out HE.out)
end Go.Proofs.Yticekgjgknfloaa
