/-
  FnStable: the law's own walk.
-/
import Derived.Test.YtljccbnkibfimaaLSbB
import Derived.Test.YtljccbnkibfimaaSg
namespace Go.Proofs.Ytljccbnkibfimaa
open Go.RowKit

theorem st_eq {fs cs : List Int} (h : Sh.sharedB fs cs = true) (h1 : costB fs cs = true) (h2 : costB fs (shareL fs cs.sum) = true) :
    ((costF fs cs).1 == (costF fs (shareL fs cs.sum)).1 && (costF fs cs).2 == (costF fs (shareL fs cs.sum)).2) = stabB fs cs := by
  have hfl := Sh.flowB_yes (Sh.sharedB_yes h).1
  have hlen := (Sh.sharedB_yes h).2.1
  have hle := Sh.le_sum (cs := cs) (fun i hi => (Sh.sharedB_at h (by omega)).1)
  have h40 := (Sh.sharedB_yes h).2.2.2
  obtain ⟨n, hn⟩ : ∃ n : Nat, (fs.length : Int) + n = cs.sum := ⟨(cs.sum - fs.length).toNat, by omega⟩
  have e : shareL fs cs.sum = Sh.share fs n := by unfold shareL; congr 1; omega
  rw [e] at h2 ⊢
  have hs := Sh.share_shared (Sh.sharedB_yes h).1 n (by omega)
  obtain ⟨i1, g1⟩ := cost_facts h h1
  obtain ⟨i2, g2⟩ := cost_facts hs h2
  unfold stabB
  rw [h, Bool.true_and, Sh.stable_cost h hn]
  by_cases he : Sh.tot fs cs = Sh.tot fs (Sh.share fs n)
  · rw [he] at i1
    have := Sh.is_eq g1 g2 i1 i2
    rw [this]; simp [he]
  · have hne : costF fs cs ≠ costF fs (Sh.share fs n) := fun hc => by
      rw [hc] at i1
      exact he (Sh.is_uniq g2 i1 i2)
    rw [decide_eq_false he]
    cases hc : ((costF fs cs).1 == (costF fs (Sh.share fs n)).1 && (costF fs cs).2 == (costF fs (Sh.share fs n)).2)
    · rfl
    · simp only [Bool.and_eq_true, beq_iff_eq] at hc
      exact absurd (Prod.ext hc.1 hc.2) hne
theorem sum_kinds {fs cs : List Int} (h : Sh.sharedB fs cs = true) : Sh.kindsB fs cs.sum = true := by
  have hlen := (Sh.sharedB_yes h).2.1
  have hle := Sh.le_sum (cs := cs) (fun i hi => (Sh.sharedB_at h (by omega)).1)
  simp only [Sh.kindsB, Bool.and_eq_true]
  exact ⟨(Sh.sharedB_yes h).1, Pf.inB_of (by omega) (Sh.sharedB_yes h).2.2.2⟩

set_option maxRecDepth 100000 in
set_option maxHeartbeats 1000000 in
theorem lSb_long {a1 a2 : Option Addr} {len1 cap1 len2 cap2 : Nat} {w : World} (h1 : (1048576 : Int) < wrap64 ((len1 : Int) + (len2 : Int))) :
    Calls Try.prog 4 #[.slice a1 len1 cap1, .slice a2 len2 cap2] w fun e w' => e = .returned (.bool true) ∧ Below w.heap.size w w' := by
  go_enter Try.func4, Try.ntmps4
  go_wp2_with fail
  go_ret
  exact ⟨rfl, Below.refl _ _⟩

set_option maxRecDepth 100000 in
set_option maxHeartbeats 8000000 in
theorem lSb_main {a1 a2 : Option Addr} {len1 cap1 len2 cap2 : Nat} {w : World} (hs1 : Hid (Src w a1 len1)) (hs2 : Hid (Src w a2 len2)) (h1 : ¬ (1048576 : Int) < wrap64 ((len1 : Int) + (len2 : Int))) :
    Calls Try.prog 4 #[.slice a1 len1 cap1, .slice a2 len2 cap2] w fun e w' => e = .returned (.bool true) ∧ Below w.heap.size w w' := by
  go_enter Try.func4, Try.ntmps4
  go_wp2_with fail
  refine (drawStable_any hs1).mono ?_
  rintro e w1 ⟨b1, e1, b2, e2, fs, cs, rfl, hf9, hc9, r1, r2, hb1⟩
  have C1 : Hid (Car w w1 b1 b2 fs cs) := hide ⟨r1, r2, hb1⟩
  have HIs := hide (fun (w' : World) (ha : ARow w' b1 fs) (hb : ARow w' b2 cs) => is_any (c := e1) (d := e2) (hide ha) (hide rfl) (hide hb) (hide rfl))
  have HSs := hide (fun (w' : World) (ha : ARow w' b1 fs) (hb : ARow w' b2 cs) => sis_any (c := e1) (d := e2) (hide ha) (hide rfl) (hide hb) (hide rfl))
  have HIc := hide (fun (w' : World) (ha : ARow w' b1 fs) (hb : ARow w' b2 cs) => co_any (c := e1) (d := e2) (hide ha) (hide rfl) (hide hb) (hide rfl))
  have HSc := hide (fun (w' : World) (ha : ARow w' b1 fs) (hb : ARow w' b2 cs) => sco_any (c := e1) (d := e2) (hide ha) (hide rfl) (hide hb) (hide rfl))
  have HIn := hide (fun (w' : World) (ha : ARow w' b1 fs) (hb : ARow w' b2 cs) => nf_any (c := e1) (d := e2) (hide ha) (hide rfl) (hide hb) (hide rfl))
  have HSn := hide (fun (w' : World) (ha : ARow w' b1 fs) (hb : ARow w' b2 cs) => snf_any (c := e1) (d := e2) (hide ha) (hide rfl) (hide hb) (hide rfl))
  have HST := hide (@st_eq fs cs)
  have HKi := hide (@sum_kinds fs cs)
  simp only [fb_eq] at HIc HSc
  generalize hsh : Sh.sharedB fs cs = sh at *
  have HSH := hide hsh
  generalize stabB fs cs = sv at *
  generalize costF fs cs = p at *
  generalize costB fs cs = cb at *
  generalize hnx : nextN fs cs = nx at *
  have HNX := hide hnx
  obtain ⟨p1, p2⟩ := p
  have t0 : (sh != sh) = false := by simp
  have t1 : (sv != sv) = false := by simp
  have t2 : (cb != cb) = false := by simp
  have t3 : (nx != nx) = false := by simp
  have tq : ∀ w, (binOp .neq 35 (.agg #[.int .i64 p1, .int .i64 p2]) (.agg #[.int .i64 p1, .int .i64 p2])).run Try.prog w = .ok (.bool false) w := fun w => by rw [frac_neq]; simp
  have vq := fun x y => frac_neqg x y p1 p2 p1 p2
  clear r1 r2 hb1 hsh hnx
  go_wp2_with fail
  refine (HIs.out _ C1.out.1 C1.out.2.1).mono ?_
  rintro e w2 ⟨rfl, hb2⟩
  have C2 := hide (C1.out.step hb2)
  clear C1 hb2 HIs
  go_wp2_with fail
  refine (HSs.out _ C2.out.1 C2.out.2.1).mono ?_
  rintro e w3 ⟨rfl, hb3⟩
  have C3 := hide (C2.out.step hb3)
  clear C2 hb3 HSs
  go_wp2_with fail
  refine (HIc.out _ C3.out.1 C3.out.2.1).mono ?_
  rintro e w4 ⟨rfl, hb4⟩
  have C4 := hide (C3.out.step hb4)
  clear C3 hb4 HIc
  go_wp2_with fail
  have C4a := hide (C4.out.alloc (.cells #[.int .i64 p1, .int .i64 p2] 35))
  have P4 := hide (PBox.new w4 (.int .i64 p1) (.int .i64 p2) 35)
  clear C4
  generalize w4.alloc (.cells #[.int .i64 p1, .int .i64 p2] 35) = W4 at *
  generalize w4.heap.size = V4 at *
  refine (HSc.out _ C4a.out.1 C4a.out.2.1).mono ?_
  rintro e w5 ⟨rfl, hb5⟩
  have C5 := hide (C4a.out.step hb5)
  have P5 := hide (P4.out.below hb5)
  clear C4a P4 hb5 HSc
  go_wp2_with fail
  have C5a := hide (C5.out.alloc (.cells #[.int .i64 p1, .int .i64 p2] 35))
  have P5a := hide (P5.out.below (below_alloc w5 (.cells #[.int .i64 p1, .int .i64 p2] 35)))
  have Q5 := hide (PBox.new w5 (.int .i64 p1) (.int .i64 p2) 35)
  clear C5 P5
  generalize w5.alloc (.cells #[.int .i64 p1, .int .i64 p2] 35) = W5 at *
  generalize w5.heap.size = V5 at *
  refine (HIn.out _ C5a.out.1 C5a.out.2.1).mono ?_
  rintro e w6 ⟨rfl, hb6⟩
  have C6 := hide (C5a.out.step hb6)
  have P6 := hide (P5a.out.below hb6)
  have Q6 := hide (Q5.out.below hb6)
  clear C5a P5a Q5 hb6 HIn
  go_wp2_with fail
  refine (HSn.out _ C6.out.1 C6.out.2.1).mono ?_
  rintro e w7 ⟨rfl, hb7⟩
  have C7 := hide (C6.out.step hb7)
  have P7 := hide (P6.out.below hb7)
  obtain ⟨qa, qb, ql⟩ := Q6.out.below hb7
  obtain ⟨pa, pb, pl⟩ := P7.out
  clear C6 P6 Q6 hb7 HSn
  cases sh
  · go_upto_if 122 with fail
    go_cut [4, 19, 20, 21, 22] (fun s4 _ _ _ _ wd => s4 = .bool false ∧ Hid (Car w wd b1 b2 fs cs))
    case first =>
      go_wp2_with fail
      go_meet
      case rel => exact ⟨rfl, C7⟩
    case rest =>
      obtain ⟨rfl, HC⟩ := hcut
      rename_i K1 hK1
      refine hK1 _ _ ?_
      exact fst_b a1 a2 b1 b2 len1 cap1 len2 cap2 e1 e2 fs cs _ _ w _ hs2 hf9 HC HSH HNX _ _ _ _ _ _ _ _ _ _ _ _ _ _ _ _ _ _ _ _ _ _ _ _ _ _ _ _ _ _ _ _ _ _ _ _ _ _ _ _ _ _ _ _ _ _ _ _ _ _ _ _ _ _ _ _ _ _ _ _ _ _ _ _ _ _ _ _ _ _ _ _ _ _ _ _ _ _ _ _ _ _ _ _ _ _ _ _ _ _ _ _ _ _ _ _ _ _ _ _ _ _ _ _ _ _ _ _ _ _ _ _ _ _ _ _ _ _ _ _ _ _ _ _ _ _ _ _ _ _ _ _ _ _ _ _ _ _ _ _ _ _ _ _ _ _ _ _ _ _ _ _ _ _ _ _ _ _ _ _ _ _ _ _ _ _ _ _ _ _ _ _ _ _ _ _ _ _ _ _ _ _ _ _ _ _ _ _ _ _ _ _ _ _ _ _ _ _ _ _ _ _ _ _ _ _ _ _ _ _ _ _ _ _ _ _ _ _ _ _ _ _ _ _ _ _ _ _ _ _ _ _ _ _ _ _ _ _ _ _ _ _ _ _ _ _ _ _ _ _ _ _ _ _ _ _ _
  · cases cb
    · go_upto_if 122 with fail
      go_cut [4, 19, 20, 21, 22] (fun s4 _ _ _ _ wd => s4 = .bool false ∧ Hid (Car w wd b1 b2 fs cs))
      case first =>
        go_wp2_with fail
        go_meet
        case rel => exact ⟨rfl, C7⟩
      case rest =>
        obtain ⟨rfl, HC⟩ := hcut
        rename_i K1 hK1
        refine hK1 _ _ ?_
        exact fst_b a1 a2 b1 b2 len1 cap1 len2 cap2 e1 e2 fs cs _ _ w _ hs2 hf9 HC HSH HNX _ _ _ _ _ _ _ _ _ _ _ _ _ _ _ _ _ _ _ _ _ _ _ _ _ _ _ _ _ _ _ _ _ _ _ _ _ _ _ _ _ _ _ _ _ _ _ _ _ _ _ _ _ _ _ _ _ _ _ _ _ _ _ _ _ _ _ _ _ _ _ _ _ _ _ _ _ _ _ _ _ _ _ _ _ _ _ _ _ _ _ _ _ _ _ _ _ _ _ _ _ _ _ _ _ _ _ _ _ _ _ _ _ _ _ _ _ _ _ _ _ _ _ _ _ _ _ _ _ _ _ _ _ _ _ _ _ _ _ _ _ _ _ _ _ _ _ _ _ _ _ _ _ _ _ _ _ _ _ _ _ _ _ _ _ _ _ _ _ _ _ _ _ _ _ _ _ _ _ _ _ _ _ _ _ _ _ _ _ _ _ _ _ _ _ _ _ _ _ _ _ _ _ _ _ _ _ _ _ _ _ _ _ _ _ _ _ _ _ _ _ _ _ _ _ _ _ _ _ _ _ _ _ _ _ _ _ _ _ _ _ _ _ _ _ _ _ _ _ _ _ _ _ _ _ _ _
    · go_upto_if 122 with fail
      go_cut [4, 19, 20, 21, 22] (fun s4 _ _ _ _ wd => s4 = .bool false ∧ Hid (Car w wd b1 b2 fs cs))
      case first =>
        have HAL := hide (Sh.sharedB_yes HSH.out).2.2.1
        have HK := hide (HKi.out (by simp))
        have HT := hide (HST.out (by simp) (by simp))
        have hso := hide (fun (w' : World) (ha : ARow w' b1 fs) => so_yes (c := e1) (hide ha) (hide rfl) HK)
        have hco := hide (fun (w' : World) (g : Nat) (ha : ARow w' b1 fs) (hb : ARow w' (some ⟨g, 0, none⟩) (shareL fs cs.sum)) => co_any (m := fs.length) (c := e1) (d := fs.length) (hide ha) (hide rfl) (hide hb) (hide (shareL_len fs cs.sum)))
        simp only [fb_eq] at hco
        have hsl : Hid ((shareL fs cs.sum).length = fs.length) := hide (shareL_len fs cs.sum)
        generalize costF fs (shareL fs cs.sum) = q at *
        generalize costB fs (shareL fs cs.sum) = cb2 at *
        obtain ⟨q1, q2⟩ := q
        simp only at HT
        clear qa qb ql pa pb pl
        go_wp2_with fail
        refine (lsum_eqn (hide C7.out.2.1) (hide rfl) (by omega) HAL).mono ?_
        rintro e w8 ⟨rfl, hw⟩
        obtain rfl : w7 = w8 := hw.symm
        go_wp2_with fail
        refine (hso.out _ C7.out.1).mono ?_
        rintro e w9 ⟨g, rfl, hb9, own9⟩
        have C9 := hide (C7.out.step hb9)
        have P9 := hide (P7.out.below hb9)
        have R9 := hide (arow_owns hsl.out.symm own9)
        clear own9 hb9
        go_wp2_with fail
        refine (hco.out _ _ C9.out.1 R9.out).mono ?_
        rintro e w10 ⟨rfl, hb10⟩
        have C10 := hide (C9.out.step hb10)
        obtain ⟨pa, pb, pl⟩ := P9.out.below hb10
        have CA := hide (C10.out.alloc (.cells #[.int .i64 q1, .int .i64 q2] 35))
        cases cb2
        · go_wp2_with fail
          go_meet
          case rel => exact ⟨rfl, CA⟩
        · have ht := HT.out rfl
          have te : ∀ w, (binOp .eql 35 (.agg #[.int .i64 p1, .int .i64 p2]) (.agg #[.int .i64 q1, .int .i64 q2])).run Try.prog w = .ok (.bool sv) w := fun w => by rw [frac_eq, ht]
          have ve := fun x y => frac_eqg x y p1 p2 q1 q2
          clear ht HT
          go_wp2_with fail
          go_meet
          case rel => exact ⟨rfl, CA⟩
      case rest =>
        obtain ⟨rfl, HC⟩ := hcut
        rename_i K1 hK1
        refine hK1 _ _ ?_
        exact fst_b a1 a2 b1 b2 len1 cap1 len2 cap2 e1 e2 fs cs _ _ w _ hs2 hf9 HC HSH HNX _ _ _ _ _ _ _ _ _ _ _ _ _ _ _ _ _ _ _ _ _ _ _ _ _ _ _ _ _ _ _ _ _ _ _ _ _ _ _ _ _ _ _ _ _ _ _ _ _ _ _ _ _ _ _ _ _ _ _ _ _ _ _ _ _ _ _ _ _ _ _ _ _ _ _ _ _ _ _ _ _ _ _ _ _ _ _ _ _ _ _ _ _ _ _ _ _ _ _ _ _ _ _ _ _ _ _ _ _ _ _ _ _ _ _ _ _ _ _ _ _ _ _ _ _ _ _ _ _ _ _ _ _ _ _ _ _ _ _ _ _ _ _ _ _ _ _ _ _ _ _ _ _ _ _ _ _ _ _ _ _ _ _ _ _ _ _ _ _ _ _ _ _ _ _ _ _ _ _ _ _ _ _ _ _ _ _ _ _ _ _ _ _ _ _ _ _ _ _ _ _ _ _ _ _ _ _ _ _ _ _ _ _ _ _ _ _ _ _ _ _ _ _ _ _ _ _ _ _ _ _ _ _ _ _ _ _ _ _ _ _ _ _ _ _ _ _ _ _ _ _ _ _ _ _ _ _
theorem lSb_walk {a1 a2 : Option Addr} {len1 cap1 len2 cap2 : Nat} {w : World} (hs1 : Src w a1 len1) (hs2 : Src w a2 len2) :
    Calls Try.prog 4 #[.slice a1 len1 cap1, .slice a2 len2 cap2] w fun e w' => e = .returned (.bool true) ∧ Below w.heap.size w w' := by
  by_cases h : (1048576 : Int) < wrap64 ((len1 : Int) + (len2 : Int))
  · exact lSb_long h
  · exact lSb_main (hide hs1) (hide hs2) h
end Go.Proofs.Ytljccbnkibfimaa
