/-
  What one lot for some days costs, of both.
-/
import Derived.Test.YticekgjgknfloaaAe14
import Derived.Test.YticekgjgknfloaaAh14
import Derived.BigQuiet
namespace Go.Proofs.Yticekgjgknfloaa
namespace Lo
open Lt
open Bx (sumTo lev)
theorem kp_bd {nd : Nat → Int} {n : Nat} (hn : n ≤ 10) (h : ∀ i, i < n → 0 ≤ nd i ∧ nd i ≤ 20) {d t : Nat} (ht : t ≤ n) : 0 ≤ kp nd d t ∧ kp nd d t ≤ 2000 := by
  have := sum_bd (f := fun k => if d ≤ k then nd k * ((k : Int) - (d : Int)) else 0) (lo := 0) (hi := 200) t fun i hi => by
    have h1 := h i (by omega)
    show 0 ≤ (if d ≤ i then nd i * ((i : Int) - (d : Int)) else 0) ∧ (if d ≤ i then nd i * ((i : Int) - (d : Int)) else 0) ≤ 200
    split
    · exact ⟨Int.mul_nonneg h1.1 (by omega), Int.le_trans (Int.mul_le_mul h1.2 (show (i : Int) - (d : Int) ≤ 10 by omega) (by omega) (by omega)) (by omega)⟩
    · omega
  have e : kp nd d t = sumTo (fun k => if d ≤ k then nd k * ((k : Int) - (d : Int)) else 0) t := rfl
  rw [e]; omega
theorem kp_self (nd : Nat → Int) (d : Nat) : ∀ k, k ≤ d → kp nd d k = 0
  | 0, _ => rfl
  | k + 1, h => by
    have e : kp nd d (k + 1) = kp nd d k + if d ≤ k then nd k * ((k : Int) - (d : Int)) else 0 := rfl
    rw [e, kp_self nd d k (by omega), if_neg (by omega)]; rfl
theorem kp_succ {nd : Nat → Int} {d k : Nat} (h : d ≤ k) : kp nd d (k + 1) = kp nd d k + nd k * ((k : Int) - (d : Int)) := by
  have e : kp nd d (k + 1) = kp nd d k + if d ≤ k then nd k * ((k : Int) - (d : Int)) else 0 := rfl
  rw [e, if_pos h]
theorem seg_succ (nd : Nat → Int) (d k : Nat) : seg nd d (k + 1) = seg nd d k + nd k := by unfold seg; simp only [sumTo]; omega
theorem seg_self (nd : Nat → Int) (d : Nat) : seg nd d d = 0 := by unfold seg; omega
theorem one_bd {S K : Int} {nd : Nat → Int} {n : Nat} (hn : n ≤ 10) (s0 : 0 ≤ S) (s1 : S ≤ 100) (k0 : 0 ≤ K) (k1 : K ≤ 10) (h : ∀ i, i < n → 0 ≤ nd i ∧ nd i ≤ 20) {d t : Nat} (ht : t ≤ n) : 0 ≤ one S K nd d t ∧ one S K nd d t ≤ 20100 := by
  obtain ⟨h1, h2⟩ := kp_bd hn h (d := d) ht
  have h3 := Int.mul_nonneg k0 h1
  have h4 : K * kp nd d t ≤ 10 * 2000 := Int.mul_le_mul k1 h2 h1 (by omega)
  unfold one
  split <;> omega
theorem T_bd {S K : Int} {nd : Nat → Int} {n : Nat} (hn : n ≤ 10) (s0 : 0 ≤ S) (s1 : S ≤ 100) (k0 : 0 ≤ K) (k1 : K ≤ 10) (h : ∀ i, i < n → 0 ≤ nd i ∧ nd i ≤ 20) : ∀ t, t ≤ n → 0 ≤ T S K nd t ∧ T S K nd t ≤ 20100 := by
  intro t
  induction t using Nat.strongRecOn with
  | _ t ih =>
    intro ht
    by_cases e : t = 0
    · subst e; rw [T_zero]; omega
    · obtain ⟨d, h1, h2⟩ := T_is S K nd (t := t) (by omega)
      have a := ih d h1 (by omega)
      have b := one_bd hn s0 s1 k0 k1 h (d := d) ht
      have c := T_le S K nd (show 0 < t by omega)
      have f := one_bd hn s0 s1 k0 k1 h (d := 0) ht
      rw [T_zero] at c
      omega
theorem at_bd {S K : Int} {nd : Nat → Int} {n : Nat} (hn : n ≤ 10) (s0 : 0 ≤ S) (s1 : S ≤ 100) (k0 : 0 ≤ K) (k1 : K ≤ 10) (h : ∀ i, i < n → 0 ≤ nd i ∧ nd i ≤ 20) {d t : Nat} (ht : t ≤ n) (hd : d ≤ n) : 0 ≤ at_ S K nd t d ∧ at_ S K nd t d ≤ 40200 := by
  have a := T_bd hn s0 s1 k0 k1 h d hd
  have b := one_bd hn s0 s1 k0 k1 h (d := d) ht
  unfold at_; omega
/-- The days from d up to t. -/
def cutL (nd : List Int) (d t : Nat) : List Int := (nd.drop d).take (t - d)
theorem cut_len {nd : List Int} {d t : Nat} (h : d ≤ t) (ht : t ≤ nd.length) : (cutL nd d t).length = t - d := by simp [cutL]; omega
theorem cut_at {nd : List Int} {d t j : Nat} (hj : j < t - d) (ht : t ≤ nd.length) : (cutL nd d t).getD j 0 = nd.getD (d + j) 0 := by
  have h1 : j < (cutL nd d t).length := by rw [cut_len (by omega) ht]; exact hj
  rw [Pf.getD_lt _ 0 h1, Pf.getD_lt _ 0 (show d + j < nd.length by omega)]
  simp [cutL]
theorem cut_all {nd : List Int} {d t : Nat} (h : Pf.allB nd 0 20 = true) (hdt : d ≤ t) (ht : t ≤ nd.length) : Pf.allB (cutL nd d t) 0 20 = true := Pf.allB_of fun i hi => by
  rw [cut_len hdt ht] at hi
  rw [cut_at hi ht]
  exact Pf.allB_get h (by omega)
theorem cut_sum {nd : List Int} {d t : Nat} (ht : t ≤ nd.length) : ∀ j, j ≤ t - d → d ≤ t → sumTo (fn (cutL nd d t)) j = seg (fn nd) d (d + j)
  | 0, _, _ => by rw [Nat.add_zero, seg_self]; rfl
  | j + 1, hj, h => by
    simp only [sumTo]
    rw [cut_sum ht j (by omega) h, ← Nat.add_assoc, seg_succ]
    show _ + (cutL nd d t).getD j 0 = _
    rw [cut_at (by omega) ht]
theorem cut_kp {nd : List Int} {d t : Nat} (ht : t ≤ nd.length) : ∀ j, j ≤ t - d → d ≤ t → kp (fn (cutL nd d t)) 0 j = kp (fn nd) d (d + j)
  | 0, _, _ => by rw [Nat.add_zero, kp_self (fn nd) d d (Nat.le_refl _)]; rfl
  | j + 1, hj, h => by
    rw [kp_succ (Nat.zero_le _), cut_kp ht j (by omega) h, ← Nat.add_assoc, kp_succ (by omega)]
    have : fn (cutL nd d t) j = fn nd (d + j) := cut_at (by omega) ht
    rw [this]
    congr 2
    omega
theorem day0 {n : Nat} (h : 0 < n) : dayB [0] n = true := by
  simp only [dayB, List.length_cons, List.length_nil, Nat.zero_add, Nat.lt_add_one, decide_true, Bool.true_and, List.getD_cons_zero, beq_self_eq_true]
  refine List.all_eq_true.2 fun i hi => ?_
  have : i = 0 := by simpa using hi
  subst this
  exact Pf.inB_of (Int.le_refl _) (by simp; omega)
/-- What a lot on the first of some days for all of them costs. -/
theorem one_lot {nd : List Int} {S K : Int} {d t : Nat} (h : d < t) (ht : t ≤ nd.length) : cst S K (fn (cutL nd d t)) (fn (lotsL (cutL nd d t) [0])) (t - d) = one S K (fn nd) d t := by
  have hl := cut_len (nd := nd) (d := d) (t := t) (by omega) ht
  have h0 : ([0] : List Int).contains (0 : Int) = true := by simp
  have sg : Seg [0] (cutL nd d t).length 0 (t - d) := ⟨by omega, by omega, by simp, Or.inl hl.symm, fun x hx _ => by
    simp at hx; omega⟩
  obtain ⟨e1, e2⟩ := sg.lots h0
  rw [seg_cost (d := 0) (t := t - d) (by omega) rfl e1 e2]
  have a : seg (fn (cutL nd d t)) 0 (t - d) = seg (fn nd) d t := by
    have := cut_sum ht (t - d) (Nat.le_refl _) (by omega)
    rw [show d + (t - d) = t by omega] at this
    rw [← this]; unfold seg; simp only [sumTo]; omega
  have b : kp (fn (cutL nd d t)) 0 (t - d) = kp (fn nd) d t := by
    have := cut_kp ht (t - d) (Nat.le_refl _) (by omega)
    rwa [show d + (t - d) = t by omega] at this
  unfold one
  rw [a, b]
  show 0 + _ = _
  omega
end Lo
open Go.RowKit

set_option maxHeartbeats 4000000 in
theorem so14_any {a : Option Addr} {n c d t : Nat} {S K : Int} {nd : List Int} {w : World} (s0 : 0 ≤ S) (s1 : S ≤ 100) (k0 : 0 ≤ K) (k1 : K ≤ 10) (HN : Hid (nd.length = n)) (hn : n ≤ 10) (hdt : d ≤ t) (ht : t ≤ n) (HA : Hid (ARow w a nd)) (hb : Pf.allB nd 0 20 = true) :
    Calls Try.prog 40 #[.agg #[.slice a n c, .int .i64 S, .int .i64 K], .int .i64 (d : Int), .int .i64 (t : Int)] w fun e w' => e = .returned (.int .i64 (Lt.one S K (Lo.fn nd) d t)) ∧ Below w.heap.size w w' := by
  have hB0 := below_new w (.cells #[.slice a n c, .int .i64 S, .int .i64 K] 27)
  have pb0 := TBox.new w (.slice a n c) (.int .i64 S) (.int .i64 K) 27
  obtain ⟨w0, hw0⟩ : ∃ W, W = w.alloc (.cells #[.slice a n c, .int .i64 S, .int .i64 K] 27) := ⟨_, rfl⟩
  rw [← hw0] at hB0 pb0
  have HW0 := hide hw0.symm
  obtain ⟨B, hB⟩ : ∃ b, b = w.heap.size := ⟨_, rfl⟩
  rw [← hB] at pb0
  have HBe := hide hB.symm
  obtain ⟨p0, p1, p2, _⟩ := pb0
  have R0 := hide (HA.out.below hB0)
  have HB0 := hide hB0
  have HP := hide fun (k : Nat) (hk : k < n) => Pf.inB_yes (Pf.allB_get hb (show k < nd.length by rw [HN.out]; exact hk))
  have HSB := hide fun (d k : Nat) (h1 : d ≤ k) (hk : k ≤ n) => Lo.seg_bd hb h1 (show k ≤ nd.length by rw [HN.out]; exact hk)
  have HKB := hide fun (k : Nat) (hk : k ≤ n) => Lo.kp_bd (nd := Lo.fn nd) (n := n) hn HP.out (d := d) (t := k) hk
  have HKM := hide fun (x : Int) (h0 : 0 ≤ x) (h1 : x ≤ 2000) => show 0 ≤ K * x ∧ K * x ≤ 20000 from ⟨Int.mul_nonneg k0 h0, Int.le_trans (Int.mul_le_mul k1 h1 h0 (by omega)) (by omega)⟩
  have HK0 := hide k0
  clear hw0 hB hB0 HA hb k0
  go_enter Try.func40, Try.ntmps40
  go_upto_region 1 with fail
  rw [HW0.out, HBe.out]
  clear HW0 HBe
  go_wp2_with fail
  go_loopw [7, 8, 9] (fun s7 s8 s9 wr => ∃ (k q : Nat) (x y : Int), s7 = .int .i64 x ∧ s8 = .int .i64 y ∧ s9 = .int .i64 k ∧ wr = w0.drewN q ∧ d ≤ k ∧ k ≤ t ∧ Hid (x = K * Lt.kp (Lo.fn nd) d k) ∧ Hid (y = Lt.seg (Lo.fn nd) d k)) (fun _ _ s9 _ => t - (intOf s9).toNat)
  case atStart => exact ⟨d, 0, 0, 0, rfl, rfl, rfl, rfl, Nat.le_refl _, hdt, hide (by rw [Lo.kp_self _ _ _ (Nat.le_refl _)]; simp), hide (Lo.seg_self _ _).symm⟩
  case round =>
    obtain ⟨k, q, x, y, rfl, rfl, rfl, rfl, hdk, hkt, HX, HY⟩ := hrel
    by_cases hlt : k < t
    · have hkn : k < n := by omega
      obtain ⟨b1, o1, rfl, r1⟩ := R0.out.at (i := k) (by rw [HN.out]; exact hkn)
      have i0 : (0 : Int) ≤ (k : Int) := by omega
      have i1 : (k : Int) < (n : Int) := by omega
      have i2 : (k : Int) < (t : Int) := by omega
      obtain ⟨u0, u1⟩ := HP.out k hkn
      obtain ⟨v0, v1⟩ := HSB.out d k hdk (by omega)
      obtain ⟨z0, z1⟩ := HKB.out k (by omega)
      obtain ⟨m0, m1⟩ := HKM.out _ z0 z1
      rw [← HX.out] at m0 m1
      rw [← HY.out] at v0 v1
      have HE : Hid (x + K * nd.getD k 0 * ((k : Int) - (d : Int)) = K * Lt.kp (Lo.fn nd) d (k + 1)) := hide (by rw [Lo.kp_succ hdk, Int.mul_add, HX.out, Int.mul_assoc])
      have HE2 : Hid (y + nd.getD k 0 = Lt.seg (Lo.fn nd) d (k + 1)) := hide (by rw [Lo.seg_succ, HY.out])
      generalize nd.getD k 0 = p at *
      have w0_ : 0 ≤ K * p ∧ K * p ≤ 200 := ⟨Int.mul_nonneg HK0.out u0, Int.le_trans (Int.mul_le_mul k1 u1 u0 (by omega)) (by omega)⟩
      have w1_ : 0 ≤ K * p * ((k : Int) - (d : Int)) ∧ K * p * ((k : Int) - (d : Int)) ≤ 2000 := ⟨Int.mul_nonneg w0_.1 (by omega), Int.le_trans (Int.mul_le_mul w0_.2 (show (k : Int) - (d : Int) ≤ 10 by omega) (by omega) (by omega)) (by omega)⟩
      have e1 : IntKind.i64.wrap (K * p) = K * p := by rw [IntKind.wrap_i64]; omega
      have e2 : IntKind.i64.wrap ((k : Int) - (d : Int)) = (k : Int) - (d : Int) := by rw [IntKind.wrap_i64]; omega
      have e3 : IntKind.i64.wrap (K * p * ((k : Int) - (d : Int))) = K * p * ((k : Int) - (d : Int)) := by rw [IntKind.wrap_i64]; omega
      have e4 : IntKind.i64.wrap (x + K * p * ((k : Int) - (d : Int))) = x + K * p * ((k : Int) - (d : Int)) := by rw [IntKind.wrap_i64]; omega
      have y1 : y ≤ 1000 := by omega
      clear w0_ w1_ z0 z1 v1 HKM
      go_wp2_with fail
      go_quiet (fail)
      go_wp2_with fail
      go_roundw
      case rel => exact ⟨k + 1, _, x + K * p * ((k : Int) - (d : Int)), y + p, by go_num, by go_num, by go_num, rfl, by omega, by omega, HE, HE2⟩
      case measure => simp only [intOf]; omega
    · have hke : k = t := by omega
      subst hke
      have HBq := hide (show Below w.heap.size w (w0.drewN q) from below_drewN HB0.out q)
      obtain ⟨v0, v1⟩ := HSB.out d k hdk ht
      obtain ⟨z0, z1⟩ := HKB.out k ht
      obtain ⟨m0, m1⟩ := HKM.out _ z0 z1
      rw [← HX.out] at m0 m1
      have HF : Hid (Lt.one S K (Lo.fn nd) d k = x + if 0 < y then S else 0) := hide (by rw [HX.out, HY.out]; rfl)
      rw [← HY.out] at v0 v1
      clear z0 z1 v1 HKM
      by_cases hy : 0 < y
      · have HF2 : Hid (Lt.one S K (Lo.fn nd) d k = x + S) := hide (by rw [HF.out, if_pos hy])
        go_wp2_with fail
        go_ret
        exact ⟨ret_int HF2.out.symm, HBq.out⟩
      · have HF2 : Hid (Lt.one S K (Lo.fn nd) d k = x) := hide (by rw [HF.out, if_neg hy]; omega)
        go_wp2_with fail
        go_ret
        exact ⟨ret_int HF2.out.symm, HBq.out⟩
set_option maxHeartbeats 4000000 in
theorem oo_any {at_ a : Option Addr} {nt ct n c m : Nat} {S K : Int} {nd L : List Int} {d t : Nat} {w : World} (s0 : 0 ≤ S) (s1 : S ≤ 100) (k0 : 0 ≤ K) (k1 : K ≤ 10) (HN : Hid (nd.length = n)) (hn : n ≤ 10) (hdt : d < t) (ht : t ≤ n) (HL : Hid (L = Lo.cutL nd d t)) (HM : Hid (L.length = m)) (HA : Hid (ARow w a L)) (hb : Pf.allB nd 0 20 = true) :
    Calls Try.prog 59 #[.agg #[.func (.func 52) #[.agg #[.slice at_ nt ct, .int .i64 S, .int .i64 K]] #[], .func (.func 53) #[.agg #[.slice at_ nt ct, .int .i64 S, .int .i64 K]] #[]], .slice a m c] w fun e w' => e = .returned (.int .i64 (Lt.one S K (Lo.fn nd) d t)) ∧ Below w.heap.size w w' := by
  obtain ⟨F1, hF1⟩ : ∃ v, v = Value.func (.func 52) #[.agg #[.slice at_ nt ct, .int .i64 S, .int .i64 K]] #[] := ⟨_, rfl⟩
  obtain ⟨F2, hF2⟩ : ∃ v, v = Value.func (.func 53) #[.agg #[.slice at_ nt ct, .int .i64 S, .int .i64 K]] #[] := ⟨_, rfl⟩
  have htl : t ≤ nd.length := by rw [HN.out]; exact ht
  have hm : m = t - d := by rw [← HM.out, HL.out, Lo.cut_len (by omega) htl]
  have hm10 : m ≤ 10 := by omega
  have hLb : Pf.allB L 0 20 = true := by rw [HL.out]; exact Lo.cut_all hb (by omega) htl
  have HV : Hid (Lt.cst S K (Lo.fn L) (Lo.fn (Lo.lotsL L [0])) m = Lt.one S K (Lo.fn nd) d t) := hide (by rw [HL.out, hm]; exact Lo.one_lot hdt htl)
  have HLL : Hid ((Lo.lotsL L [0]).length = m) := hide (by rw [Lo.lots_len, HM.out])
  have hLb2 : Pf.allB (Lo.lotsL L [0]) 0 200 = true := Pf.allB_of fun i hi => by
    rw [Lo.lots_len] at hi
    have h1 := Lo.lev_bd (D := [0]) hLb (Nat.le_refl _) i
    have h2 : (Lo.lotsL L [0]).getD i 0 = Bx.lev (Lo.lat [0]) (Lo.fn L) L.length i := Lo.lots_at hi
    have h3 := HM.out
    rw [h2]; exact Pf.inB_of h1.1 (by omega)
  have hB0 := below_new w (.cells #[Value.func (.func 52) #[.agg #[.slice at_ nt ct, .int .i64 S, .int .i64 K]] #[], Value.func (.func 53) #[.agg #[.slice at_ nt ct, .int .i64 S, .int .i64 K]] #[]] 51)
  have q0 : (w.alloc (.cells #[Value.func (.func 52) #[.agg #[.slice at_ nt ct, .int .i64 S, .int .i64 K]] #[], Value.func (.func 53) #[.agg #[.slice at_ nt ct, .int .i64 S, .int .i64 K]] #[]] 51)).cell? ⟨w.heap.size, 0, none⟩ = some (Value.func (.func 52) #[.agg #[.slice at_ nt ct, .int .i64 S, .int .i64 K]] #[]) := by simp
  have q1 : (w.alloc (.cells #[Value.func (.func 52) #[.agg #[.slice at_ nt ct, .int .i64 S, .int .i64 K]] #[], Value.func (.func 53) #[.agg #[.slice at_ nt ct, .int .i64 S, .int .i64 K]] #[]] 51)).cell? ⟨w.heap.size, 1, none⟩ = some (Value.func (.func 53) #[.agg #[.slice at_ nt ct, .int .i64 S, .int .i64 K]] #[]) := by simp
  have qz : w.heap.size < (w.alloc (.cells #[Value.func (.func 52) #[.agg #[.slice at_ nt ct, .int .i64 S, .int .i64 K]] #[], Value.func (.func 53) #[.agg #[.slice at_ nt ct, .int .i64 S, .int .i64 K]] #[]] 51)).heap.size := by simp
  obtain ⟨U, hU⟩ : ∃ U, U = w.alloc (.cells #[Value.func (.func 52) #[.agg #[.slice at_ nt ct, .int .i64 S, .int .i64 K]] #[], Value.func (.func 53) #[.agg #[.slice at_ nt ct, .int .i64 S, .int .i64 K]] #[]] 51) := ⟨_, rfl⟩
  rw [← hU] at hB0 q0 q1 qz
  obtain ⟨B, hB⟩ : ∃ b, b = w.heap.size := ⟨_, rfl⟩
  rw [← hB] at q0 q1 qz
  have HU := hide hU.symm
  have HBe := hide hB.symm
  have HB0 := hide hB0
  have R0 := hide (HA.out.below hB0)
  have HZ := hide fun (W : World) (h : Below U.heap.size U W) (a' : Option Addr) (c' : Nat) (r : ARow W a' [0]) => lo_av (w := W) (c := c) (c' := c') (m := 1) (ds := [0]) HM (hide rfl) hm10 (by omega) (hide (R0.out.below h)) (hide r) hLb
  have HOL := hide fun (W : World) (h : Below U.heap.size U W) (a' : Option Addr) (r : ARow W a' (Lo.lotsL L [0])) => ol_any (at_ := at_) (nt := nt) (ct := ct) (c := c) (c' := m) (w := W) s0 s1 k0 k1 HM HLL hm10 (hide (R0.out.below h)) (hide r) hLb hLb2
  rw [HV.out] at HOL
  have HST : Hid (∀ W1 W2, Below U.heap.size U W1 → Below W1.heap.size W1 W2 → W2.cell? ⟨B, 0, none⟩ = some (Value.func (.func 52) #[.agg #[.slice at_ nt ct, .int .i64 S, .int .i64 K]] #[]) ∧ W2.cell? ⟨B, 1, none⟩ = some (Value.func (.func 53) #[.agg #[.slice at_ nt ct, .int .i64 S, .int .i64 K]] #[]) ∧ Below U.heap.size U W2) := hide fun W1 W2 h1 h2 => by
    have h := h1.trans (h2.mono h1.size)
    exact ⟨(h.cell (p := ⟨B, 0, none⟩) qz).trans q0, (h.cell (p := ⟨B, 1, none⟩) qz).trans q1, h⟩
  have HRow := hide fun (W : World) (e : TypeId) => show ARow (W.alloc (.cells #[.int .i64 0] e)) (some ⟨W.heap.size, 0, none⟩) [0] from Or.inr ⟨W.heap.size, 0, rfl, by simp, fun i hi => by
    have : i = 0 := by simpa using hi
    subst this; simp⟩
  have hS0 := HST.out U U.drew (Below.refl _ _) (Below.refl _ _).drew
  clear hb hLb hLb2 hB0 q0 q1 qz hB hU hF1 hF2 k0 k1 s0 s1 htl hm hdt ht HV HL HA
  generalize Lt.one S K (Lo.fn nd) d t = V at *
  go_enter Try.func59, Try.ntmps59
  go_upto_region 1 with fail
  rw [HU.out, HBe.out]
  clear HU HBe
  go_region_held3 (fun w' => w'.cell? ⟨B, 0, none⟩ = some (Value.func (.func 52) #[.agg #[.slice at_ nt ct, .int .i64 S, .int .i64 K]] #[]) ∧ w'.cell? ⟨B, 1, none⟩ = some (Value.func (.func 53) #[.agg #[.slice at_ nt ct, .int .i64 S, .int .i64 K]] #[]) ∧ Below U.heap.size U w')
    (first | exact hS0 | assumption | exact HST.out _ _ (‹_ ∧ _ ∧ _›).2.2 (below_new _ _) | fail)
    (first
    | (go_at_call 45; obtain ⟨_, _, hbS⟩ := ‹_ ∧ _ ∧ _›; refine (HZ.out _ hbS _ _ (HRow.out U 3)).mono ?_; rintro e w3 ⟨b3, rfl, hb3, o3⟩; have R3 := hide (arow_owns HLL.out.symm o3.1); clear o3; have hS3 := HST.out _ _ hbS hb3)
    | (go_at_call 38; obtain ⟨_, _, hbT⟩ := ‹_ ∧ _ ∧ _›; refine (HOL.out _ hbT _ R3.out).mono ?_; rintro e w4 ⟨rfl, hb4⟩; have hS4 := HST.out _ _ hbT hb4)
    | fail)
  obtain ⟨_, _, hbE⟩ := ‹_ ∧ _ ∧ _›
  have HBE := hide (HB0.out.trans (hbE.mono HB0.out.size))
  clear hbE hb3 hb4 hbS hbT hS3 hS4 hS0
  go_wp2_with fail
  go_ret
  exact ⟨rfl, HBE.out⟩
end Go.Proofs.Yticekgjgknfloaa
