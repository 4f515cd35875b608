/-
  The least costs, of the program: costsUpTo, leastCosts, CostTable.
-/
import Derived.Test.YticekgjgknfloaaAk14
import Derived.Test.YticekgjgknfloaaAi14
namespace Go.Proofs.Yticekgjgknfloaa
namespace Lo
open Lt
open Bx (sumTo lev)
def cuL (S K : Int) (nd : List Int) (t : Nat) : List Int := tbl t fun d => at_ S K (fn nd) t d
theorem cuL_len (S K : Int) (nd : List Int) (t : Nat) : (cuL S K nd t).length = t := tbl_len _ _
theorem cuL_at {S K : Int} {nd : List Int} {t d : Nat} (h : d < t) : (cuL S K nd t).getD d 0 = at_ S K (fn nd) t d := tbl_get _ h
def cuT (S K : Int) (nd : List Int) (t k : Nat) : List Int := tbl t fun d => if d < k then at_ S K (fn nd) t d else 0
theorem cuT_zero (S K : Int) (nd : List Int) (t : Nat) : cuT S K nd t 0 = List.replicate t 0 := by
  rw [← tbl_zero]; exact tbl_eq fun i _ => by simp
theorem cuT_all (S K : Int) (nd : List Int) (t : Nat) : cuT S K nd t t = cuL S K nd t := tbl_eq fun i hi => by simp [hi]
theorem cuT_set (S K : Int) (nd : List Int) (t k : Nat) : (cuT S K nd t k).set k (at_ S K (fn nd) t k) = cuT S K nd t (k + 1) := tbl_set (by simp) fun j _ hj => by
  by_cases e : j < k
  · simp [e, show j < k + 1 by omega]
  · simp [e, show ¬ j < k + 1 by omega]
end Lo
open Go.RowKit
/-- What a cell holds. -/
def cv14 (w : World) (C k : Nat) : Value := (w.cell? ⟨C, k, none⟩).getD (.bool false)
theorem some14 {o : Option Value} {v : Value} (h : o = some v) : o.isSome = true := by rw [h]; rfl
theorem cv14_of {w : World} {C k : Nat} {v : Value} (h : w.cell? ⟨C, k, none⟩ = some v) : w.cell? ⟨C, k, none⟩ = some (cv14 w C k) := by rw [cv14, h]; rfl

set_option maxHeartbeats 8000000 in
theorem cu_any {a aT : Option Addr} {n c m cT t : Nat} {S K : Int} {nd TB : List Int} {w : World} (s0 : 0 ≤ S) (s1 : S ≤ 100) (k0 : 0 ≤ K) (k1 : K ≤ 10) (HN : Hid (nd.length = n)) (hn : n ≤ 10) (hc : n ≤ c) (ht : t ≤ n) (HM : Hid (TB.length = m)) (hm : t ≤ m) (HT : Hid (∀ d, d < t → TB.getD d 0 = Lt.T S K (Lo.fn nd) d)) (HA : Hid (ARow w a nd)) (HA' : Hid (ARow w aT TB)) (hb : Pf.allB nd 0 20 = true) :
    Calls Try.prog 54 #[.agg #[.slice a n c, .int .i64 S, .int .i64 K], .slice aT m cT, .int .i64 (t : Int)] w fun e w' => ∃ b, e = .returned (.slice (some ⟨b, 0, none⟩) t t) ∧ Below w.heap.size w w' ∧ AV w' w.heap.size w'.heap.size (.slice (some ⟨b, 0, none⟩) t t) t (Lo.cuL S K nd t) := by
  have hB0 := below_new w (.cells #[.slice a n c, .int .i64 S, .int .i64 K] 27)
  have pb0 := TBox.new w (.slice a n c) (.int .i64 S) (.int .i64 K) 27
  obtain ⟨w0, hw0⟩ : ∃ W, W = w.alloc (.cells #[.slice a n c, .int .i64 S, .int .i64 K] 27) := ⟨_, rfl⟩
  rw [← hw0] at hB0 pb0
  have HW0 := hide hw0.symm
  obtain ⟨B, hB⟩ : ∃ b, b = w.heap.size := ⟨_, rfl⟩
  rw [← hB] at pb0
  have HBe := hide hB.symm
  have hBw : B < w0.heap.size := pb0.2.2.2
  have PB := hide pb0
  have R0 := hide (HA.out.below hB0)
  have R1 := hide (HA'.out.below hB0)
  have HB0 := hide hB0
  have HMO := hide (made_own w0 t (by omega))
  have hmk := makeI_run t (by omega)
  have HP : ∀ i, i < n → 0 ≤ Lo.fn nd i ∧ Lo.fn nd i ≤ 20 := fun k hk => Pf.inB_yes (Pf.allB_get hb (show k < nd.length by rw [HN.out]; exact hk))
  have HTB := hide fun (d : Nat) (hd : d ≤ n) => Lo.T_bd hn s0 s1 k0 k1 HP d hd
  have HOB := hide fun (d : Nat) => Lo.one_bd hn s0 s1 k0 k1 HP (d := d) ht
  have HCo := hide fun (W : World) => co14_any (a := a) (n := n) (c := c) (S := S) (K := K) (w := W)
  have HOO := hide fun (W : World) (L : List Int) (d : Nat) (hd : d < t) (aL : Option Addr) (cL mL : Nat) (HL : Hid (L = Lo.cutL nd d t)) (HmL : Hid (L.length = mL)) (r : Hid (ARow W aL L)) => oo_any (at_ := a) (nt := n) (ct := c) (c := cL) (w := W) s0 s1 k0 k1 HN hn hd ht HL HmL r hb
  have z0 : w.heap.size < w0.heap.size := by rw [hw0]; simp
  clear hw0 hB pb0 hB0 HA HA' hb HP s0 s1 k0 k1
  go_enter Try.func54, Try.ntmps54
  go_upto_region 1 with fail
  rw [HW0.out, HBe.out]
  clear HW0 HBe
  go_wp2_with fail
  go_loopw [8, 13] (fun _ s wr => ∃ (k : Nat), s = .int .i64 k ∧ k ≤ t ∧ Hid (wr.ownsRow w0.heap.size 3 1 (.slice (some ⟨w0.heap.size, 0, none⟩) t t) t (ints (Lo.cuT S K nd t k))) ∧ Hid (Below w0.heap.size w0 wr) ∧ w0.heap.size < wr.heap.size) (fun _ s _ => t - (intOf s).toNat)
  case atStart => exact ⟨0, rfl, Nat.zero_le _, hide (by rw [Lo.cuT_zero]; exact HMO.out), hide (below_new _ _), by simp⟩
  case round =>
    clear HMO
    obtain ⟨k, rfl, hk, HO, HB, hz⟩ := hrel
    by_cases hlt : k < t
    · have hkn : k < n := by omega
      obtain ⟨b1, o1, rfl, hl1, rr1⟩ := R0.out.resolve_left (by intro e; have := HN.out; rw [e] at this; simp at this; omega)
      obtain ⟨b2, o2, rfl, hl2, rr2⟩ := R1.out.resolve_left (by intro e; have := HM.out; rw [e] at this; simp at this; omega)
      have i0 : (0 : Int) ≤ (k : Int) := by omega
      have i1 : (k : Int) < (t : Int) := by omega
      have i2 : (k : Int) < (m : Int) := by omega
      have i3 : (k : Int) ≤ (t : Int) := by omega
      have i4 : (t : Int) ≤ (c : Int) := by omega
      have i5 : ¬ c - k = 0 := by omega
      have i6 : ¬ c = k := by omega
      have HRC : Hid (∀ W, Below w0.heap.size w0 W → Hid (ARow W (some ⟨b1, o1 + k, none⟩) (Lo.cutL nd k t))) := hide fun W h => hide (Or.inr ⟨b1, o1 + k, rfl, Nat.lt_of_lt_of_le hl1 h.size, fun i hi => by
        rw [Lo.cut_len (by omega) (by rw [HN.out]; exact ht)] at hi
        rw [Lo.cut_at hi (by rw [HN.out]; exact ht), Nat.add_assoc]
        exact (h.cell (p := ⟨b1, o1 + (k + i), none⟩) hl1).trans (rr1 (k + i) (by rw [HN.out]; omega))⟩)
      have HCL : Hid ((Lo.cutL nd k t).length = t - k) := hide (Lo.cut_len (by omega) (by rw [HN.out]; exact ht))
      have HR2 : Hid (∀ W, Below w0.heap.size w0 W → W.cell? ⟨b2, o2 + k, none⟩ = some (.int .i64 (Lt.T S K (Lo.fn nd) k))) := hide fun W h => by
        rw [(h.cell (p := ⟨b2, o2 + k, none⟩) hl2).trans (rr2 k (by rw [HM.out]; omega)), HT.out k hlt]
      have HSET := hide (Lo.cuT_set S K nd t k)
      obtain ⟨u0, u1⟩ := HTB.out k (by omega)
      obtain ⟨v0, v1⟩ := HOB.out k
      have HAT : Hid (Lo.at_ S K (Lo.fn nd) t k = Lt.T S K (Lo.fn nd) k + Lt.one S K (Lo.fn nd) k t) := hide rfl
      rw [HAT.out] at HSET
      have HOK := hide fun (W : World) (h : Below w0.heap.size w0 W) => HOO.out W (Lo.cutL nd k t) k hlt (some ⟨b1, o1 + k, none⟩) (c - k) (t - k) (hide rfl) HCL (HRC.out W h)
      generalize Lt.T S K (Lo.fn nd) k = X at *
      generalize Lt.one S K (Lo.fn nd) k t = Y at *
      have e1 : IntKind.i64.wrap (X + Y) = X + Y := by rw [IntKind.wrap_i64]; omega
      have hCB : w0.heap.size ≠ B := by omega
      have HST : Hid (∀ W1 W2, Below w0.heap.size w0 W1 → Below W1.heap.size W1 W2 → w0.heap.size < W1.heap.size → (W1.cell? ⟨w0.heap.size, k, none⟩).isSome = true → W1.frozen? ⟨w0.heap.size, k, none⟩ = false → W2.cell? ⟨B, 0, none⟩ = some (.slice (some ⟨b1, o1, none⟩) n c) ∧ W2.cell? ⟨B, 1, none⟩ = some (.int .i64 S) ∧ W2.cell? ⟨B, 2, none⟩ = some (.int .i64 K) ∧ W2.cell? ⟨b2, o2 + k, none⟩ = some (.int .i64 X) ∧ W2.cell? ⟨w0.heap.size, k, none⟩ = some (cv14 W2 w0.heap.size k) ∧ W2.frozen? ⟨w0.heap.size, k, none⟩ = false ∧ w0.heap.size < W2.heap.size ∧ Below w0.heap.size w0 W2) := hide fun W1 W2 h1 h2 h3 h4 h5 => by
        have h := h1.trans (h2.mono h1.size)
        obtain ⟨x0, x1, x2, _⟩ := PB.out.below h
        obtain ⟨v, hv⟩ := Option.isSome_iff_exists.1 h4
        have h6 := (h2.cell (p := ⟨w0.heap.size, k, none⟩) h3).trans hv
        exact ⟨x0, x1, x2, HR2.out _ h, cv14_of h6, (h2.frozen (p := ⟨w0.heap.size, k, none⟩) h3).trans h5, Nat.lt_of_lt_of_le h3 h2.size, h⟩
      have HSC : Hid (∀ W V, W.cell? ⟨B, 0, none⟩ = some (.slice (some ⟨b1, o1, none⟩) n c) ∧ W.cell? ⟨B, 1, none⟩ = some (.int .i64 S) ∧ W.cell? ⟨B, 2, none⟩ = some (.int .i64 K) ∧ W.cell? ⟨b2, o2 + k, none⟩ = some (.int .i64 X) ∧ W.cell? ⟨w0.heap.size, k, none⟩ = some (cv14 W w0.heap.size k) ∧ W.frozen? ⟨w0.heap.size, k, none⟩ = false ∧ w0.heap.size < W.heap.size ∧ Below w0.heap.size w0 W →
          (W.setCell ⟨w0.heap.size, k, none⟩ V).cell? ⟨B, 0, none⟩ = some (.slice (some ⟨b1, o1, none⟩) n c) ∧ (W.setCell ⟨w0.heap.size, k, none⟩ V).cell? ⟨B, 1, none⟩ = some (.int .i64 S) ∧ (W.setCell ⟨w0.heap.size, k, none⟩ V).cell? ⟨B, 2, none⟩ = some (.int .i64 K) ∧ (W.setCell ⟨w0.heap.size, k, none⟩ V).cell? ⟨b2, o2 + k, none⟩ = some (.int .i64 X) ∧ (W.setCell ⟨w0.heap.size, k, none⟩ V).cell? ⟨w0.heap.size, k, none⟩ = some (cv14 (W.setCell ⟨w0.heap.size, k, none⟩ V) w0.heap.size k) ∧ (W.setCell ⟨w0.heap.size, k, none⟩ V).frozen? ⟨w0.heap.size, k, none⟩ = false ∧ w0.heap.size < (W.setCell ⟨w0.heap.size, k, none⟩ V).heap.size ∧ Below w0.heap.size w0 (W.setCell ⟨w0.heap.size, k, none⟩ V)) := hide fun W V ⟨_, _, _, _, h4, h5, h6, h7⟩ => by
        have h := h7.setCell (p := ⟨w0.heap.size, k, none⟩) (Nat.le_refl _) V
        obtain ⟨x0, x1, x2, _⟩ := PB.out.below h
        exact ⟨x0, x1, x2, HR2.out _ h, cv14_of (World.cell?_setCell_same _ _ _ h4), (World.frozen?_setCell ..).trans h5, by simpa using h6, h⟩
      have c0 : wr.cell? ⟨w0.heap.size, k, none⟩ = some (.int .i64 ((Lo.cuT S K nd t k).getD k 0)) := by rw [HO.out.cellAt _ (by omega), ints_get _ _ (by rw [Lo.cuT, Lo.tbl_len]; exact hlt)]
      have hS0 := HST.out wr wr.drew HB.out (Below.refl _ _).drew hz (some14 c0) (HO.out.frozenAt k)
      have HOd := hide HO.out.drew
      clear c0 hmk rr1 rr2
      go_wp2_with fail
      go_region_held3 (fun w' => w'.cell? ⟨B, 0, none⟩ = some (.slice (some ⟨b1, o1, none⟩) n c) ∧ w'.cell? ⟨B, 1, none⟩ = some (.int .i64 S) ∧ w'.cell? ⟨B, 2, none⟩ = some (.int .i64 K) ∧ w'.cell? ⟨b2, o2 + k, none⟩ = some (.int .i64 X) ∧ w'.cell? ⟨w0.heap.size, k, none⟩ = some (cv14 w' w0.heap.size k) ∧ w'.frozen? ⟨w0.heap.size, k, none⟩ = false ∧ w0.heap.size < w'.heap.size ∧ Below w0.heap.size w0 w')
        (first | exact hS0 | assumption | exact HSC.out _ _ (by assumption) | fail)
        (first
        | (go_at_call 37; obtain ⟨_, _, _, _, hcS, hfS, hzS, hbS⟩ := ‹_ ∧ _ ∧ _ ∧ _ ∧ _ ∧ _ ∧ _ ∧ _›; refine (HCo.out _).mono ?_; rintro e w3 ⟨rfl, hb3⟩; have hS3 := HST.out _ _ hbS hb3 hzS (some14 hcS) hfS; have HO3 := hide (own_below HOd.out hb3); clear HOd)
        | (go_at_call 59; obtain ⟨_, _, _, _, hcT, hfT, hzT, hbT⟩ := ‹_ ∧ _ ∧ _ ∧ _ ∧ _ ∧ _ ∧ _ ∧ _›; refine (HOK.out _ hbT).mono ?_; rintro e w4 ⟨rfl, hb4⟩; have hS4 := HST.out _ _ hbT hb4 hzT (some14 hcT) hfT; have HO4 := hide (own_below HO3.out hb4); clear HO3)
        | fail)
      obtain ⟨_, _, _, _, _, _, hzE, hbE⟩ := ‹_ ∧ _ ∧ _ ∧ _ ∧ _ ∧ _ ∧ _ ∧ _›
      obtain ⟨st1, st2⟩ := HO4.out.stored k (.int .i64 (X + Y))
      rw [ints_set, HSET.out] at st1
      have HST1 := hide st1
      have HBE := hide hbE
      have HZE := hide hzE
      clear st1 st2 hbE hzE hb3 hb4 hbS hbT hS3 hS4 hS0 hcS hfS hzS hcT hfT hzT
      go_wp2_with fail
      exact ⟨⟨k + 1, by go_num, by omega, HST1, HBE, HZE.out⟩, by simp only [intOf]; omega⟩
    · have hke : k = t := by omega
      subst hke
      have HE := hide (show wr.ownsRow w0.heap.size 3 1 (.slice (some ⟨w0.heap.size, 0, none⟩) k k) k (ints (Lo.cuL S K nd k)) by rw [← Lo.cuT_all]; exact HO.out)
      have HBB := hide (HB0.out.trans (HB.out.mono HB0.out.size))
      clear hmk
      go_wp2_with fail
      go_ret
      exact ⟨_, rfl, HBB.out, owns_low HE.out (by omega), fun g hg => by cases hg; exact hz, Nat.le_refl _⟩
namespace Lo
open Lt
theorem tab_at {S K : Int} {nd : Nat → Int} {m t : Nat} (h : t ≤ m) : (tab S K nd m).getD t 0 = T S K nd t := tab_get S K nd m t h
theorem tab_step {S K : Int} {nd : List Int} {t : Nat} (h : 0 < t) : tab S K (fn nd) t = tab S K (fn nd) (t - 1) ++ [minTo (fn (cuL S K nd t)) (t - 1)] := by
  obtain ⟨m, rfl⟩ : ∃ m, t = m + 1 := ⟨t - 1, by omega⟩
  rw [Nat.add_sub_cancel, tab]
  congr 2
  have key : ∀ k, k ≤ m → minTo (fun d => (tab S K (fn nd) m).getD d 0 + one S K (fn nd) d (m + 1)) k = minTo (fn (cuL S K nd (m + 1))) k := by
    have e : ∀ d, d ≤ m → (tab S K (fn nd) m).getD d 0 + one S K (fn nd) d (m + 1) = fn (cuL S K nd (m + 1)) d := fun d hd => by
      rw [tab_at hd, show fn (cuL S K nd (m + 1)) d = at_ S K (fn nd) (m + 1) d from cuL_at (by omega)]; rfl
    intro k
    induction k with
    | zero => intro _; exact e 0 (by omega)
    | succ k ih =>
      intro hk
      rw [minTo, minTo, ih (by omega), e (k + 1) hk]
  exact key m (Nat.le_refl _)
end Lo
theorem own_at14 {w : World} {lo n : Nat} {v : Value} {xs : List Int} (hx : xs.length = n) (h : w.ownsRow lo 3 1 v n (ints xs)) (h1 : 1 ≤ n) : ∃ b c, v = .slice (some ⟨b, 0, none⟩) n c ∧ n ≤ c ∧ ARow w (some ⟨b, 0, none⟩) xs := by
  rcases h.2 with ⟨rfl, h0⟩ | ⟨g, cap, cur, rfl, _, _, hnc, _⟩
  · omega
  · exact ⟨g, cap, rfl, hnc, arow_owns hx.symm h⟩
set_option maxHeartbeats 8000000 in
theorem lt14_any {a : Option Addr} {n c : Nat} {S K : Int} {nd : List Int} {w : World} (s0 : 0 ≤ S) (s1 : S ≤ 100) (k0 : 0 ≤ K) (k1 : K ≤ 10) (HN : Hid (nd.length = n)) (hn : n ≤ 10) (hc : n ≤ c) (HA : Hid (ARow w a nd)) (hb : Pf.allB nd 0 20 = true) :
    Calls Try.prog 42 #[.agg #[.slice a n c, .int .i64 S, .int .i64 K]] w fun e w' => ∃ b cb, e = .returned (.slice (some ⟨b, 0, none⟩) (n + 1) cb) ∧ Below w.heap.size w w' ∧ AV w' w.heap.size w'.heap.size (.slice (some ⟨b, 0, none⟩) (n + 1) cb) (n + 1) (Lt.tab S K (Lo.fn nd) n) := by
  have hB0 := below_new w (.cells #[.slice a n c, .int .i64 S, .int .i64 K] 27)
  have pb0 := TBox.new w (.slice a n c) (.int .i64 S) (.int .i64 K) 27
  obtain ⟨w0, hw0⟩ : ∃ W, W = w.alloc (.cells #[.slice a n c, .int .i64 S, .int .i64 K] 27) := ⟨_, rfl⟩
  rw [← hw0] at hB0 pb0
  have HW0 := hide hw0.symm
  obtain ⟨B, hB⟩ : ∃ b, b = w.heap.size := ⟨_, rfl⟩
  rw [← hB] at pb0
  have HBe := hide hB.symm
  have PB := hide pb0
  have R0 := hide (HA.out.below hB0)
  have HB0 := hide hB0
  have HLIT := hide (show (w0.alloc (.cells #[.int .i64 0] 3)).ownsRow w0.heap.size 3 1 (.slice (some ⟨w0.heap.size, 0, none⟩) 1 1) 1 (ints (Lt.tab S K (Lo.fn nd) 0)) from by
    have h := World.ownsRow_lit (base := w0.heap.size) (e := 3) (size := 1) w0 #[.int .i64 0] 1 (Nat.le_refl _) (by unfold maxLen; omega) (by simp)
    exact h)
  have HTL : Hid (∀ t, (Lt.tab S K (Lo.fn nd) t).length = t + 1) := hide (Lt.tab_len S K (Lo.fn nd))
  have HCU := hide fun (W : World) (h : Below w0.heap.size w0 W) (t : Nat) (h1 : 1 ≤ t) (ht : t ≤ n) (aT : Option Addr) (cT : Nat) (r : Hid (ARow W aT (Lt.tab S K (Lo.fn nd) (t - 1)))) => cu_any (w := W) (c := c) (cT := cT) (m := t) s0 s1 k0 k1 HN hn hc ht (hide (by rw [HTL.out]; omega)) (Nat.le_refl _) (hide fun d hd => Lo.tab_at (by omega)) (hide (R0.out.below h)) r hb
  have hBw : w.heap.size ≤ w0.heap.size := HB0.out.size
  clear hw0 hB pb0 hB0 HA hb s0 s1 k0 k1
  go_enter Try.func42, Try.ntmps42
  go_upto_region 1 with fail
  rw [HW0.out, HBe.out]
  clear HW0 HBe
  go_wp2_with fail
  go_loopw [3, 4] (fun s3 s wr => ∃ (t : Nat), s = .int .i64 t ∧ 1 ≤ t ∧ t ≤ n + 1 ∧ Hid (wr.ownsRow w0.heap.size 3 1 s3 t (ints (Lt.tab S K (Lo.fn nd) (t - 1)))) ∧ Hid (Below w0.heap.size w0 wr)) (fun _ s _ => n + 1 - (intOf s).toNat)
  case atStart => exact ⟨1, rfl, Nat.le_refl _, by omega, HLIT, hide (below_new _ _)⟩
  case round =>
    clear HLIT
    obtain ⟨t, rfl, ht1, htn, HO, HB⟩ := hrel
    obtain ⟨p0, p1, p2, _⟩ := PB.out.below HB.out
    obtain ⟨bT, cT, rfl, hcT, rT⟩ := own_at14 (by rw [HTL.out]; omega) HO.out ht1
    have RT := hide rT
    clear rT
    by_cases hlt : t ≤ n
    · have i1 : (t : Int) ≤ (n : Int) := by omega
      have HLL := hide (Lo.cuL_len S K nd t)
      have HSTEP := hide (Lo.tab_step (S := S) (K := K) (nd := nd) (t := t) (by omega))
      go_wp2_with fail
      refine (HCU.out _ HB.out t ht1 hlt _ _ RT).mono ?_
      rintro e w3 ⟨b3, rfl, hb3, o3⟩
      have HB3 := hide (HB.out.trans (hb3.mono HB.out.size))
      have HO3 := hide (own_below HO.out hb3)
      have R3 := hide (arow_owns HLL.out.symm o3.1)
      clear hb3 o3 HO RT
      go_wp2_with fail
      refine (min14 HLL ht1 (by omega) R3).mono ?_
      rintro e w4 ⟨rfl, hw4⟩
      obtain rfl := hw4.symm
      generalize Lt.minTo (Lo.fn (Lo.cuL S K nd t)) (t - 1) = M at *
      obtain ⟨v', w', hr, own', hg⟩ := push_int (x := M) HO3.out (by omega) HB3.out.size
      have HO' : Hid (w'.ownsRow w0.heap.size 3 1 v' (t + 1) (ints (Lt.tab S K (Lo.fn nd) (t + 1 - 1)))) := hide (by rw [Nat.add_sub_cancel, HSTEP.out, ints_snoc]; exact own')
      have HB' := hide (HB3.out.trans (grown_under' hg HO3.out (Nat.le_refl _) HB3.out.size))
      clear own' hg HO3
      go_wp2_with (first | (at_builtin; refine Lib.wpList_append_run _ rfl _ _ _ _ rfl _ _ rfl rfl _ _ (hr _) ?_))
      go_roundw
      case rel => exact ⟨t + 1, by go_num, by omega, by omega, HO', HB'⟩
      case measure => simp only [intOf]; omega
    · have hke : t = n + 1 := by omega
      subst hke
      have HBB := hide (HB0.out.trans (HB.out.mono HB0.out.size))
      have j1 : ¬ (n : Int) + 1 ≤ (n : Int) := by omega
      go_wp2_with fail
      go_ret
      exact ⟨bT, cT, rfl, HBB.out, owns_low HO.out hBw, fun g hg => (HO.out.lt g hg).2, Nat.le_refl _⟩
end Go.Proofs.Yticekgjgknfloaa
