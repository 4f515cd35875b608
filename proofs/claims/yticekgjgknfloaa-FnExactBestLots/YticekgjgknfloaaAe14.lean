/-
  The costs of a trade as function values, what lots cost, LotCost of the program.
-/
import Derived.Test.YticekgjgknfloaaAd14
import Derived.Laws.EntriesVeiled
import Derived.Shelf.Abstract
namespace Go.Proofs.Yticekgjgknfloaa
namespace Lo
open Lt
theorem mul_bd {K l : Int} (k0 : 0 ≤ K) (k1 : K ≤ 10) (l0 : -200 ≤ l) (l1 : l ≤ 2000) : -2000 ≤ K * l ∧ K * l ≤ 20000 := by
  have h1 := Int.mul_le_mul_of_nonneg_left l1 k0
  have h2 := Int.mul_le_mul_of_nonneg_left l0 k0
  omega
theorem cst_bds {S K : Int} {nd lots : List Int} {n : Nat} (s0 : 0 ≤ S) (s1 : S ≤ 100) (k0 : 0 ≤ K) (k1 : K ≤ 10) (hn : n ≤ 10) (h1 : Pf.allB nd 0 20 = true) (h2 : Pf.allB lots 0 200 = true) (e1 : nd.length = n) (e2 : lots.length = n) {j : Nat} (hj : j ≤ n) : -2000 * (j : Int) ≤ cst S K (fn nd) (fn lots) j ∧ cst S K (fn nd) (fn lots) j ≤ 20100 * (j : Int) :=
  sum_bd j fun i hi => by
    have h := left_bds h1 h2 e1 e2 (j := i + 1) (by omega)
    have hm := mul_bd k0 k1 (l := left (fn nd) (fn lots) (i + 1)) (by omega) (by omega)
    show -2000 ≤ (if 0 < fn lots i then S else 0) + K * left (fn nd) (fn lots) (i + 1) ∧ (if 0 < fn lots i then S else 0) + K * left (fn nd) (fn lots) (i + 1) ≤ 20100
    split <;> omega
end Lo
open Go.RowKit

set_option maxHeartbeats 1000000 in
theorem sf_any {a : Option Addr} {n c : Nat} {S K x : Int} {w : World} (hx : 0 ≤ x) :
    Calls Try.prog 52 #[.agg #[.slice a n c, .int .i64 S, .int .i64 K], .int .i64 x] w fun e w' => e = .returned (.int .i64 (if 0 < x then S else 0)) ∧ Below w.heap.size w w' := by
  have HB := hide (below_box w (.cells #[.slice a n c, .int .i64 S, .int .i64 K] 27))
  obtain ⟨Z, hZ⟩ : ∃ Z : Int, Z = if 0 < x then S else 0 := ⟨_, rfl⟩
  rw [← hZ]
  by_cases h : x = 0
  · subst h
    obtain rfl : Z = 0 := by rw [hZ]; rfl
    clear hZ
    go_enter Try.func52, Try.ntmps52
    go_wp2_with fail
    go_ret
    exact ⟨rfl, HB.out⟩
  · have h1 : (x == (0 : Int)) = false := by simpa using h
    have h2 : Hid (Z = S) := hide (by rw [hZ, if_pos (by omega)])
    clear hx hZ
    go_enter Try.func52, Try.ntmps52
    go_wp2_with fail
    go_ret
    exact ⟨ret_int h2.out.symm, HB.out⟩
set_option maxHeartbeats 1000000 in
theorem kf_any {a : Option Addr} {n c : Nat} {S K x : Int} {w : World} (h0 : -2000 ≤ K * x) (h1 : K * x ≤ 20000) :
    Calls Try.prog 53 #[.agg #[.slice a n c, .int .i64 S, .int .i64 K], .int .i64 x] w fun e w' => e = .returned (.int .i64 (K * x)) ∧ Below w.heap.size w w' := by
  have HB := hide (below_box w (.cells #[.slice a n c, .int .i64 S, .int .i64 K] 27))
  go_enter Try.func53, Try.ntmps53
  go_wp2_with fail
  go_ret
  exact ⟨rfl, HB.out⟩
set_option maxHeartbeats 1000000 in
theorem co14_any {a : Option Addr} {n c : Nat} {S K : Int} {w : World} :
    Calls Try.prog 37 #[.agg #[.slice a n c, .int .i64 S, .int .i64 K]] w fun e w' => e = .returned (.agg #[.func (.func 52) #[.agg #[.slice a n c, .int .i64 S, .int .i64 K]] #[], .func (.func 53) #[.agg #[.slice a n c, .int .i64 S, .int .i64 K]] #[]]) ∧ Below w.heap.size w w' := by
  have hmf : ∀ (fn : Fn) (first cap : Array Value) (w : World), (Instr.makeFunc fn first cap).run Try.prog w = .ok (.func fn first cap) w := fun _ _ _ _ => rfl
  go_enter Try.func37, Try.ntmps37
  go_wp2_with fail
  exact bodyPost_ret (v := .agg #[.func (.func 52) #[.agg #[.slice a n c, .int .i64 S, .int .i64 K]] #[], .func (.func 53) #[.agg #[.slice a n c, .int .i64 S, .int .i64 K]] #[]]) (by simp [results, Try.results37, go_sem]) rfl ⟨rfl, (below_box w _).alloc (by simp) _⟩
set_option maxHeartbeats 4000000 in
theorem ol_any {at_ a a' : Option Addr} {nt ct n c c' : Nat} {S K : Int} {nd ls : List Int} {w : World} (s0 : 0 ≤ S) (s1 : S ≤ 100) (k0 : 0 ≤ K) (k1 : K ≤ 10) (HN : Hid (nd.length = n)) (HL : Hid (ls.length = n)) (hn : n ≤ 10) (HA : Hid (ARow w a nd)) (HA' : Hid (ARow w a' ls)) (hb1 : Pf.allB nd 0 20 = true) (hb2 : Pf.allB ls 0 200 = true) :
    Calls Try.prog 38 #[.agg #[.func (.func 52) #[.agg #[.slice at_ nt ct, .int .i64 S, .int .i64 K]] #[], .func (.func 53) #[.agg #[.slice at_ nt ct, .int .i64 S, .int .i64 K]] #[]], .slice a n c, .slice a' n c'] w fun e w' => e = .returned (.int .i64 (Lt.cst S K (Lo.fn nd) (Lo.fn ls) n)) ∧ Below w.heap.size w w' := by
  obtain ⟨F1, hF1⟩ : ∃ v, v = Value.func (.func 52) #[.agg #[.slice at_ nt ct, .int .i64 S, .int .i64 K]] #[] := ⟨_, rfl⟩
  obtain ⟨F2, hF2⟩ : ∃ v, v = Value.func (.func 53) #[.agg #[.slice at_ nt ct, .int .i64 S, .int .i64 K]] #[] := ⟨_, rfl⟩
  have eg1 : ∀ args w, (callFunc 52 args).run Try.prog w = .ok (.enter 52 args) w := enters_of Try.func52 (by kernel_rfl) rfl
  have eg2 : ∀ args w, (callFunc 53 args).run Try.prog w = .ok (.enter 53 args) w := enters_of Try.func53 (by kernel_rfl) rfl
  have hB0 := below_new w (.cells #[Value.func (.func 52) #[.agg #[.slice at_ nt ct, .int .i64 S, .int .i64 K]] #[], Value.func (.func 53) #[.agg #[.slice at_ nt ct, .int .i64 S, .int .i64 K]] #[]] 51)
  have q0 : (w.alloc (.cells #[Value.func (.func 52) #[.agg #[.slice at_ nt ct, .int .i64 S, .int .i64 K]] #[], Value.func (.func 53) #[.agg #[.slice at_ nt ct, .int .i64 S, .int .i64 K]] #[]] 51)).cell? ⟨w.heap.size, 0, none⟩ = some (Value.func (.func 52) #[.agg #[.slice at_ nt ct, .int .i64 S, .int .i64 K]] #[]) := by simp
  have q1 : (w.alloc (.cells #[Value.func (.func 52) #[.agg #[.slice at_ nt ct, .int .i64 S, .int .i64 K]] #[], Value.func (.func 53) #[.agg #[.slice at_ nt ct, .int .i64 S, .int .i64 K]] #[]] 51)).cell? ⟨w.heap.size, 1, none⟩ = some (Value.func (.func 53) #[.agg #[.slice at_ nt ct, .int .i64 S, .int .i64 K]] #[]) := by simp
  have qz : w.heap.size < (w.alloc (.cells #[Value.func (.func 52) #[.agg #[.slice at_ nt ct, .int .i64 S, .int .i64 K]] #[], Value.func (.func 53) #[.agg #[.slice at_ nt ct, .int .i64 S, .int .i64 K]] #[]] 51)).heap.size := by simp
  obtain ⟨U, hU⟩ : ∃ U, U = w.alloc (.cells #[Value.func (.func 52) #[.agg #[.slice at_ nt ct, .int .i64 S, .int .i64 K]] #[], Value.func (.func 53) #[.agg #[.slice at_ nt ct, .int .i64 S, .int .i64 K]] #[]] 51) := ⟨_, rfl⟩
  rw [← hU] at hB0 q0 q1 qz
  obtain ⟨B, hB⟩ : ∃ b, b = w.heap.size := ⟨_, rfl⟩
  rw [← hB] at q0 q1 qz
  have HU := hide hU.symm
  have HBe := hide hB.symm
  have HB0 := hide hB0
  have R0 := hide (HA.out.below hB0)
  have R1 := hide (HA'.out.below hB0)
  have HC := hide fun (W : World) (h : Below U.heap.size U W) => show W.cell? ⟨B, 0, none⟩ = some (Value.func (.func 52) #[.agg #[.slice at_ nt ct, .int .i64 S, .int .i64 K]] #[]) ∧ W.cell? ⟨B, 1, none⟩ = some (Value.func (.func 53) #[.agg #[.slice at_ nt ct, .int .i64 S, .int .i64 K]] #[]) from
    ⟨(h.cell (p := ⟨B, 0, none⟩) qz).trans q0, (h.cell (p := ⟨B, 1, none⟩) qz).trans q1⟩
  have HLA := hide (la_av (w := U) (c := c) (c' := c') HN HL hn R0 R1 hb1 hb2)
  have HLL : Hid ((Lo.leftL nd ls).length = n) := hide (by rw [Lo.leftL_len, HL.out])
  have HD := hide fun (k : Nat) (hk : k ≤ n) => Lo.left_bds hb1 hb2 HN.out HL.out hk
  have HCB := hide fun (k : Nat) (hk : k ≤ n) => Lo.cst_bds s0 s1 k0 k1 hn hb1 hb2 HN.out HL.out hk
  have HP2 := hide fun (k : Nat) (hk : k < n) => Pf.inB_yes (Pf.allB_get hb2 (show k < ls.length by rw [HL.out]; exact hk))
  have HMB := hide fun (l : Int) (l0 : -200 ≤ l) (l1 : l ≤ 2000) => Lo.mul_bd k0 k1 l0 l1
  clear hb1 hb2 hB0 q0 q1 qz hB HA HA' k0 k1 hU hF1 hF2
  go_enter Try.func38, Try.ntmps38
  go_upto_region 1 with fail
  rw [HU.out, HBe.out]
  clear HU HBe
  go_wp2_with fail
  refine HLA.out.mono ?_
  rintro e w1 ⟨b1, rfl, hb1, o1⟩
  have HB1 := hide hb1
  have R2 := hide (arow_owns HLL.out.symm o1.1)
  have HS1 := hide (HB0.out.trans (hb1.mono HB0.out.size))
  clear hb1 o1 HLA
  go_wp2_with fail
  go_loopw [7, 8, 9, 14] (fun s7 _ _ s wr => ∃ (k : Nat) (x : Int), s7 = .int .i64 x ∧ s = .int .i64 k ∧ k ≤ n ∧ Hid (x = Lt.cst S K (Lo.fn nd) (Lo.fn ls) k) ∧ Hid (Below w1.heap.size w1 wr)) (fun _ _ _ s _ => n - (intOf s).toNat)
  case atStart => exact ⟨0, 0, rfl, rfl, Nat.zero_le _, hide rfl, hide (Below.refl _ _)⟩
  case round =>
    obtain ⟨k, x, rfl, rfl, hk, HX, HB⟩ := hrel
    by_cases hlt : k < n
    · obtain ⟨b2, o2, e2, hl2, rr2⟩ := (R2.out.below HB.out).resolve_left (by intro e; have := HLL.out; rw [e] at this; simp at this; omega)
      cases e2
      have r2 := rr2 k (by rw [HLL.out]; exact hlt)
      rw [Nat.zero_add] at r2
      obtain ⟨b3, o3, rfl, hl3, rr3⟩ := R1.out.resolve_left (by intro e; have := HL.out; rw [e] at this; simp at this; omega)
      have r3 : ∀ W, Below U.heap.size U W → W.cell? ⟨b3, o3 + k, none⟩ = some (.int .i64 (ls.getD k 0)) := fun W h => (h.cell (p := ⟨b3, o3 + k, none⟩) hl3).trans (rr3 k (by rw [HL.out]; exact hlt))
      obtain ⟨p0, p1⟩ := HP2.out k hlt
      obtain ⟨d0, d1⟩ := HD.out (k + 1) hlt
      obtain ⟨c0, c1⟩ := HCB.out k hk
      rw [Lo.leftL_at (by rw [HL.out]; exact hlt)] at r2
      have HE : Hid (x + ((if 0 < ls.getD k 0 then S else 0) + K * Lt.left (Lo.fn nd) (Lo.fn ls) (k + 1)) = Lt.cst S K (Lo.fn nd) (Lo.fn ls) (k + 1)) := hide (by rw [HX.out, Lo.cst_succ])
      rw [← HX.out] at c0 c1
      have hkk : (k : Int) ≤ 10 := by omega
      have x0 : -20000 ≤ x := by omega
      have x1 : x ≤ 201000 := by omega
      obtain ⟨m0, m1⟩ := HMB.out (Lt.left (Lo.fn nd) (Lo.fn ls) (k + 1)) (by omega) (by omega)
      have HSF := hide fun (W : World) => sf_any (a := at_) (n := nt) (c := ct) (S := S) (K := K) (w := W) p0
      have HKF := hide fun (W : World) => kf_any (a := at_) (n := nt) (c := ct) (S := S) (K := K) (w := W) m0 m1
      have z0 : 0 ≤ (if 0 < ls.getD k 0 then S else 0) ∧ (if 0 < ls.getD k 0 then S else 0) ≤ 100 := by split <;> omega
      generalize (if 0 < ls.getD k 0 then S else 0) = Z at *
      generalize K * Lt.left (Lo.fn nd) (Lo.fn ls) (k + 1) = M at *
      generalize Lt.left (Lo.fn nd) (Lo.fn ls) (k + 1) = L at *
      generalize ls.getD k 0 = q at *
      obtain ⟨z0, z1⟩ := z0
      have i0 : (0 : Int) ≤ (k : Int) := by omega
      have i1 : (k : Int) < (n : Int) := by omega
      have HR3 := hide r3
      have HST : Hid (∀ W1 W2, Below w1.heap.size w1 W1 → Below W1.heap.size W1 W2 → W2.cell? ⟨B, 0, none⟩ = some (Value.func (.func 52) #[.agg #[.slice at_ nt ct, .int .i64 S, .int .i64 K]] #[]) ∧ W2.cell? ⟨B, 1, none⟩ = some (Value.func (.func 53) #[.agg #[.slice at_ nt ct, .int .i64 S, .int .i64 K]] #[]) ∧ W2.cell? ⟨b3, o3 + k, none⟩ = some (.int .i64 q) ∧ Below w1.heap.size w1 W2) := hide fun W1 W2 h1 h2 => by
        have h' := h1.trans (h2.mono h1.size)
        have h := HB1.out.trans (h'.mono HB1.out.size)
        exact ⟨(HC.out _ h).1, (HC.out _ h).2, HR3.out _ h, h'⟩
      have e1 : IntKind.i64.wrap (Z + M) = Z + M := by rw [IntKind.wrap_i64]; omega
      have e2 : IntKind.i64.wrap (x + (Z + M)) = x + (Z + M) := by rw [IntKind.wrap_i64]; omega
      have hS0 := HST.out wr wr.drew HB.out (Below.refl _ _).drew
      clear r3 rr2 rr3 d0 d1 c0 c1 hkk p0 p1
      go_wp2_with fail
      go_region_held3 (fun w' => w'.cell? ⟨B, 0, none⟩ = some (Value.func (.func 52) #[.agg #[.slice at_ nt ct, .int .i64 S, .int .i64 K]] #[]) ∧ w'.cell? ⟨B, 1, none⟩ = some (Value.func (.func 53) #[.agg #[.slice at_ nt ct, .int .i64 S, .int .i64 K]] #[]) ∧ w'.cell? ⟨b3, o3 + k, none⟩ = some (.int .i64 q) ∧ Below w1.heap.size w1 w')
        (first | exact hS0 | assumption | fail)
        (first
        | (go_at_fn 52; obtain ⟨_, _, _, hbS⟩ := ‹_ ∧ _ ∧ _ ∧ _›; refine (HSF.out _).mono ?_; rintro e w3 ⟨rfl, hb3⟩; have hS3 := HST.out _ _ hbS hb3)
        | (go_at_fn 53; obtain ⟨_, _, _, hbT⟩ := ‹_ ∧ _ ∧ _ ∧ _›; refine (HKF.out _).mono ?_; rintro e w4 ⟨rfl, hb4⟩; have hS4 := HST.out _ _ hbT hb4)
        | fail)
      obtain ⟨_, _, _, hbE⟩ := ‹_ ∧ _ ∧ _ ∧ _›
      have HBE := hide hbE
      clear hbE hb3 hb4 hbS hbT hS3 hS4 hS0
      go_wp2_with fail
      go_roundw
      case rel => exact ⟨k + 1, x + (Z + M), by go_num, by go_num, by omega, HE, HBE⟩
      case measure => simp only [intOf]; omega
    · have hke : k = n := by omega
      subst hke
      have HF := hide (HS1.out.trans (HB.out.mono HS1.out.size))
      go_wp2_with fail
      go_ret
      exact ⟨ret_int HX.out, HF.out⟩
set_option maxHeartbeats 4000000 in
theorem lc_any {a a' : Option Addr} {n c m c' : Nat} {xs ls : List Int} {S K : Int} {w : World} (HN : Hid (xs.length = n)) (HM : Hid (ls.length = m)) (HA : Hid (ARow w a xs)) (HA' : Hid (ARow w a' ls)) :
    Calls Try.prog 16 #[.agg #[.slice a n c, .int .i64 S, .int .i64 K], .slice a' m c'] w fun e w' => e = .returned (.tuple #[.int .i64 (Lo.lcI xs S K ls), .bool (Lo.okB xs S K ls)]) ∧ Below w.heap.size w w' := by
  have hB0 := below_new w (.cells #[.slice a n c, .int .i64 S, .int .i64 K] 27)
  have pb0 := TBox.new w (.slice a n c) (.int .i64 S) (.int .i64 K) 27
  obtain ⟨w0, hw0⟩ : ∃ W, W = w.alloc (.cells #[.slice a n c, .int .i64 S, .int .i64 K] 27) := ⟨_, rfl⟩
  rw [← hw0] at hB0 pb0
  have HW0 := hide hw0.symm
  obtain ⟨B, hB⟩ : ∃ b, b = w.heap.size := ⟨_, rfl⟩
  rw [← hB] at pb0
  have HBe := hide hB.symm
  have PB := hide pb0
  have R0 := hide (HA.out.below hB0)
  have R1 := hide (HA'.out.below hB0)
  have HB0 := hide hB0
  have HAE := hide (ae_any (c := c) (c' := c') (S := S) (K := K) HN HM R0 R1)
  clear hw0 hB pb0 hB0 HA HA'
  cases ho : Lo.okB xs S K ls
  · have HI0 : Hid (Lo.lcI xs S K ls = 0) := hide (by simp [Lo.lcI, ho])
    rw [ho] at HAE
    obtain ⟨p0, p1, p2, _⟩ := PB.out
    clear ho
    go_enter Try.func16, Try.ntmps16
    go_upto_region 1 with fail
    rw [HW0.out, HBe.out]
    clear HW0 HBe
    go_wp2_with fail
    refine HAE.out.mono ?_
    rintro e w1 ⟨rfl, hb1⟩
    have HB1 := hide (HB0.out.trans (hb1.mono HB0.out.size))
    clear hb1
    go_wp2_with fail
    go_ret2
    exact ⟨by rw [HI0.out]; rfl, HB1.out⟩
  · have HI0 : Hid (Lo.lcI xs S K ls = Lt.cst S K (Lo.fn xs) (Lo.fn ls) n) := hide (by simp [Lo.lcI, ho, HN.out])
    rw [ho] at HAE
    obtain ⟨p0, p1, p2, _⟩ := PB.out
    have h := ho
    simp only [Lo.okB, Lo.lotsB, Bool.and_eq_true, decide_eq_true_eq] at h
    have g := Lo.good_of h.1.1
    obtain ⟨n1, n10, hall, s0, s1, k0, k1⟩ := g
    have hmn : m = n := by rw [← HM.out, ← HN.out]; exact h.1.2.1
    subst hmn
    rw [HN.out] at n1 n10
    have HOL := hide fun (W : World) (hW : Below w0.heap.size w0 W) => ol_any (at_ := a) (nt := m) (ct := c) (c := c) (c' := c') (w := W) s0 s1 k0 k1 HN HM n10 (hide (R0.out.below hW)) (hide (R1.out.below hW)) hall h.1.2.2
    have HCo := hide fun (W : World) => co14_any (a := a) (n := m) (c := c) (S := S) (K := K) (w := W)
    have HST : Hid (∀ W1 W2, Below w0.heap.size w0 W1 → Below W1.heap.size W1 W2 → W2.cell? ⟨B, 0, none⟩ = some (.slice a m c) ∧ W2.cell? ⟨B, 1, none⟩ = some (.int .i64 S) ∧ W2.cell? ⟨B, 2, none⟩ = some (.int .i64 K) ∧ Below w0.heap.size w0 W2) := hide fun W1 W2 h1 h2 => by
      have h := h1.trans (h2.mono h1.size)
      obtain ⟨x0, x1, x2, _⟩ := PB.out.below h
      exact ⟨x0, x1, x2, h⟩
    clear ho h s0 s1 k0 k1 hall
    generalize Lt.cst S K (Lo.fn xs) (Lo.fn ls) m = V at *
    go_enter Try.func16, Try.ntmps16
    go_upto_region 1 with fail
    rw [HW0.out, HBe.out]
    clear HW0 HBe
    go_wp2_with fail
    refine HAE.out.mono ?_
    rintro e w1 ⟨rfl, hb1⟩
    have hS0 := HST.out w1 w1.drew hb1 (Below.refl _ _).drew
    clear hb1 p0 p1 p2
    go_wp2_with fail
    go_region_held3 (fun w' => w'.cell? ⟨B, 0, none⟩ = some (.slice a m c) ∧ w'.cell? ⟨B, 1, none⟩ = some (.int .i64 S) ∧ w'.cell? ⟨B, 2, none⟩ = some (.int .i64 K) ∧ Below w0.heap.size w0 w')
      (first | exact hS0 | assumption | fail)
      (first
      | (go_at_call 37; obtain ⟨_, _, _, hbS⟩ := ‹_ ∧ _ ∧ _ ∧ _›; refine (HCo.out _).mono ?_; rintro e w3 ⟨rfl, hb3⟩; have hS3 := HST.out _ _ hbS hb3)
      | (go_at_call 38; obtain ⟨_, _, _, hbT⟩ := ‹_ ∧ _ ∧ _ ∧ _›; refine (HOL.out _ hbT).mono ?_; rintro e w4 ⟨rfl, hb4⟩; have hS4 := HST.out _ _ hbT hb4)
      | fail)
    obtain ⟨_, _, _, hbE⟩ := ‹_ ∧ _ ∧ _ ∧ _›
    have HBE := hide (HB0.out.trans (hbE.mono HB0.out.size))
    clear hbE hb3 hb4 hbS hbT hS3 hS4 hS0
    go_wp2_with fail
    go_ret2
    exact ⟨by rw [HI0.out]; rfl, HBE.out⟩
end Go.Proofs.Yticekgjgknfloaa
