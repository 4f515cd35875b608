/-
  The library's sort over a comparison that lays blocks; the program's order of goods.
-/
import Derived.Test.YtlbagigghpiifaaHe17
namespace Go.Proofs.Ytlbagigghpiifaa
open Go.RowKit Go.Sort

/-- A comparison of numbers by their values, the greater one first, that may lay blocks. -/
def CmpGr (f : Nat) (cb : Array Value) (vs : List Int) (g : Nat) (w : World) : Prop :=
  ∀ W : World, w.heap.size ≤ W.heap.size → (∀ b o, b < w.heap.size → b ≠ g → W.cell? ⟨b, o, none⟩ = w.cell? ⟨b, o, none⟩) → ∀ i j : Nat, i < vs.length → j < vs.length →
    Calls Try.prog f (#[.int .i64 (i : Int), .int .i64 (j : Int)] ++ cb) W fun e w' => e = .returned (.int .i64 (cmpI (Rk.val vs j) (Rk.val vs i))) ∧ ∃ q os, w' = grow (W.drewN q) os
theorem CmpGr.below {f g : Nat} {cb : Array Value} {vs : List Int} {w w' : World} (h : CmpGr f cb vs g w) (hs : w.heap.size ≤ w'.heap.size) (hB : ∀ b, b < w.heap.size → w'.heap[b]? = w.heap[b]?) : CmpGr f cb vs g w' :=
  fun W hz hW => h W (Nat.le_trans hs hz) fun b o hb hne => (hW b o (Nat.lt_of_lt_of_le hb hs) hne).trans (World.cell?_of_block (w := w) (a := ⟨b, o, none⟩) (hB b hb))
theorem cmp_lays17 {w : World} {f g m : Nat} {cb : Array Value} {vs : List Int} (hv : vs.length = m + 1) (hc : CmpGr f cb vs g w) (size : Nat) :
    CmpLays1 Try.prog f cb (encF m) (fun x y => cmpI (Rk.val vs y.val) (Rk.val vs x.val)) g 0 size w := by
  intro q os dk _ x y
  refine hc _ ?_ (fun b o hb hne => sort_far hb hne) x.val y.val (by rw [hv]; exact x.isLt) (by rw [hv]; exact y.isLt)
  unfold sortWorld
  rw [size_grow, size_putRow]
  exact Nat.le_add_right _ _
theorem grow_owns {w : World} {base g n c : Nat} {xs : List Value} (os : Array Obj) (h : w.ownsRow base 3 1 (.slice (some ⟨g, 0, none⟩) n c) n xs) (hg : g < w.heap.size) : (grow w os).ownsRow base 3 1 (.slice (some ⟨g, 0, none⟩) n c) n xs :=
  owns_keep h (heap_grow_old w os hg)
theorem grow_grownBy {w w1 : World} {g : Nat} (os : Array Obj) (h : w.grownBy w1 (some g)) : w.grownBy (grow w1 os) (some g) :=
  ⟨h.os, h.tape, h.output, by rw [size_grow]; exact Nat.le_trans h.size (Nat.le_add_right _ _), fun b hb hne => (heap_grow_old w1 os (Nat.lt_of_lt_of_le hb h.size)).trans (h.block b hb hne)⟩
set_option maxHeartbeats 1000000 in
theorem stable_g {w : World} {f m g base : Nat} {cb : Array Value} {vs : List Int} {d : List (Fin (m + 1))} (hm : m + 1 ≤ 12) (hd : d.length = m + 1) (hr : Rk.vals m d = List.range (m + 1)) (hv : vs.length = m + 1)
    (eg : ∀ args w, (callFunc f args).run Try.prog w = .ok (.enter f args) w) (hc : CmpGr f cb vs g w)
    (hown : w.ownsRow base 3 1 (.slice (some ⟨g, 0, none⟩) (m + 1) (m + 1)) (m + 1) (ints (nats (Rk.vals m d)))) :
    Calls Try.prog 80 #[.slice (some ⟨g, 0, none⟩) (m + 1 : Nat) (m + 1 : Nat), .int .i64 (m + 1 : Nat), .func (.func f) #[] cb] w fun e w' =>
      e = .returned (.tuple #[]) ∧ w'.ownsRow base 3 1 (.slice (some ⟨g, 0, none⟩) (m + 1) (m + 1)) (m + 1) (ints (nats (Rk.rank vs))) ∧ w.grownBy w' (some g) := by
  have hsort : Calls Try.prog 81 #[.slice (some ⟨g, 0, none⟩) (m + 1 : Nat) (m + 1 : Nat), .int .i64 (0 : Nat), .int .i64 (m + 1 : Nat), .func (.func f) #[] cb] w fun e w' =>
      e = .returned (.tuple #[]) ∧ w'.ownsRow base 3 1 (.slice (some ⟨g, 0, none⟩) (m + 1) (m + 1)) (m + 1) (ints (nats (Rk.rank vs))) ∧ w.grownBy w' (some g) := by
    have hg := (own_at7 hown).2
    have hsz : d.toArray.size = m + 1 := by simpa using hd
    have h := Any.insertionSortCmpFunc_s Try.laysSlF20_f81 (encF m) (fun x y => cmpI (Rk.val vs y.val) (Rk.val vs x.val)) f cb g 0 (m + 1) 0 (m + 1) d.toArray d.toArray w w eg
      (cmp_lays17 hv hc _) ⟨encF_one m, own_holds hd hown, hg⟩ rfl (SW.start (own_holds hd hown)) (Nat.zero_le _) (by rw [hsz]; exact Nat.le_refl _) (by rw [hsz]; omega)
    rw [hsz] at h
    refine h.mono ?_
    rintro e w' ⟨he, q, os, rfl⟩
    obtain ⟨D, hD, hDv⟩ := Rk.sorted vs m d.toArray (by simpa using hr) hv
    rw [ltOf_eq, hD]
    have hp := put_owns (d := D) (xs := nats (Rk.vals m d)) q (by have := congrArg List.length hDv; rw [Rk.rank_len, hv] at this; simpa [Rk.vals] using this) hown
    rw [hDv] at hp
    exact ⟨he, grow_owns os hp (own_at7 hp).2, grow_grownBy os put_grown⟩
  have HS := hide hsort
  have h20 : ¬ (20 : Int) ≤ ((m + 1 : Nat) : Int) := by omega
  have h21 : ¬ (20 : Int) < ((m + 1 : Nat) : Int) := by omega
  clear hsort hown hc eg
  generalize m + 1 = n at HS h20 h21 ⊢
  go_enter Try.func80, Try.ntmps80
  go_wp2_with fail
  go_loop [7, 8] (fun s t => s = .int .i64 0 ∧ t = .int .i64 20) (fun _ _ => 0)
  case atStart => exact ⟨rfl, rfl⟩
  case round =>
    obtain ⟨rfl, rfl⟩ := hrel
    go_wp2_with fail
    refine HS.out.mono ?_
    rintro e w1 ⟨rfl, h1, h2⟩
    go_wp2_with fail
    go_loop [6, 7, 8, 9] (fun s _ _ _ => s = .int .i64 20) (fun _ _ _ _ => 0)
    case atStart => rfl
    case round =>
      subst hrel
      go_wp2_with fail
      go_end0
      exact ⟨rfl, h1, h2⟩
theorem sort_g {w : World} {f m g base : Nat} {cb : Array Value} {vs : List Int} (hm : m + 1 ≤ 12) (hv : vs.length = m + 1)
    (eg : ∀ args w, (callFunc f args).run Try.prog w = .ok (.enter f args) w) (hc : CmpGr f cb vs g w)
    (hown : w.ownsRow base 3 1 (.slice (some ⟨g, 0, none⟩) (m + 1) (m + 1)) (m + 1) (ints (nats (List.range (m + 1))))) :
    Calls Try.prog 76 #[.slice (some ⟨g, 0, none⟩) (m + 1 : Nat) (m + 1 : Nat), .func (.func f) #[] cb] w fun e w' =>
      e = .returned (.tuple #[]) ∧ w'.ownsRow base 3 1 (.slice (some ⟨g, 0, none⟩) (m + 1) (m + 1)) (m + 1) (ints (nats (Rk.rank vs))) ∧ w.grownBy w' (some g) := by
  have HS := hide (stable_g hm (fins_len m) (fins_vals m) hv eg hc (by rw [fins_vals]; exact hown))
  clear hown hc eg
  generalize m + 1 = n at HS ⊢
  go_enter Try.func76, Try.ntmps76
  go_wp2_with fail
  refine HS.out.mono ?_
  rintro e w1 ⟨rfl, h1, h2⟩
  go_wp2_with fail
  go_end0
  exact ⟨rfl, h1, h2⟩
theorem sort_g' {w : World} {f n g base : Nat} {cb : Array Value} {vs : List Int} (hn0 : 1 ≤ n) (hn : n ≤ 12) (hv : vs.length = n)
    (eg : ∀ args w, (callFunc f args).run Try.prog w = .ok (.enter f args) w) (hc : CmpGr f cb vs g w)
    (hown : w.ownsRow base 3 1 (.slice (some ⟨g, 0, none⟩) n n) n (ints (nats (List.range n)))) :
    Calls Try.prog 76 #[.slice (some ⟨g, 0, none⟩) n n, .func (.func f) #[] cb] w fun e w' =>
      e = .returned (.tuple #[]) ∧ w'.ownsRow base 3 1 (.slice (some ⟨g, 0, none⟩) n n) n (ints (nats (Rk.rank vs))) ∧ w.grownBy w' (some g) := by
  obtain ⟨m, rfl⟩ : ∃ m, n = m + 1 := ⟨n - 1, by omega⟩
  exact sort_g hn hv eg hc hown
set_option maxHeartbeats 2000000 in
theorem sn_g {n f : Nat} {cb : Array Value} {vs : List Int} {w : World} (hv : vs.length = n) (hn0 : 1 ≤ n) (hn : n ≤ 12) (eg : ∀ args w, (callFunc f args).run Try.prog w = .ok (.enter f args) w) (hc : CmpGr f cb vs w.heap.size w) :
    Calls Try.prog 63 #[.int .i64 n, .func (.func f) #[] cb] w fun e w' => e = .returned (.slice (some ⟨w.heap.size, 0, none⟩) n n) ∧ Below w.heap.size w w' ∧ w'.ownsRow w.heap.size 3 1 (.slice (some ⟨w.heap.size, 0, none⟩) n n) n (ints (nats (Rk.rank vs))) := by
  have hmk := makeI_run n (by omega)
  have HV := hide hv
  have HO := hide (made_own w n (by omega))
  have HE := hide eg
  have HC := hide hc
  clear hv eg hc
  go_enter Try.func63, Try.ntmps63
  go_wp2_with fail
  go_loopw [6, 11] (fun _ s wr => ∃ (k : Nat) (ys : List Int), s = .int .i64 k ∧ k ≤ n ∧ ys.length = n ∧ Hid (ys.take k = nats (List.range k)) ∧ wr.ownsRow w.heap.size 3 1 (.slice (some ⟨w.heap.size, 0, none⟩) n n) n (ints ys) ∧ Below w.heap.size w wr) (fun _ s _ => n - (intOf s).toNat)
  case atStart => exact ⟨0, List.replicate n 0, rfl, Nat.zero_le _, by simp, hide (by simp [nats]), HO.out, (Below.refl _ _).alloc (Nat.le_refl _) _⟩
  case round =>
    obtain ⟨k, ys, rfl, hk, hy, HT, hown, hB⟩ := hrel
    by_cases hlt : k < n
    · have i0 : (0 : Int) ≤ (k : Int) := by omega
      have i1 : (k : Int) < (n : Int) := by omega
      have c0 : wr.cell? ⟨w.heap.size, k, none⟩ = some (.int .i64 (ys.getD k 0)) := by rw [hown.cellAt k (by omega), ints_get ys k (by omega)]
      have f0 := hown.frozenAt k
      obtain ⟨st1, st2⟩ := hown.stored k (.int .i64 (k : Int))
      rw [ints_set] at st1
      have HST := hide st1
      have HF := hide (fill_step ys k n hy hlt HT.out)
      clear hmk st1 hown
      go_wp2_with fail
      go_roundw
      case rel => exact ⟨k + 1, ys.set k (k : Int), by go_num, by omega, by simpa using hy, HF, HST.out, hB.setCell (Nat.le_refl _) _⟩
      case measure => simp only [intOf]; omega
    · have hke : k = n := by omega
      subst hke
      have hys : ys = nats (List.range k) := by have := HT.out; rwa [← hy, List.take_length, hy] at this
      subst hys
      have HS := hide (sort_g' hn0 hn HV.out HE.out (HC.out.below hB.size hB.block) hown)
      clear hown hmk
      go_wp2_with fail
      refine HS.out.mono ?_
      rintro e w1 ⟨rfl, h1, h2⟩
      go_wp2_with fail
      go_ret
      exact ⟨rfl, hB.trans (grownBy_below h2 (Nat.le_refl _) hB.size), h1⟩
/-- The closure that holds two goods against each other. -/
theorem mfe_cmp {b n cap : Nat} {ps cs : List Int} {w : World} (hn : ps.length = n) (hp : ∀ i, i < n → 1 ≤ ps.getD i 0 ∧ ps.getD i 0 ≤ 30) (hc : ∀ i, i < n → 1 ≤ cs.getD i 0 ∧ cs.getD i 0 ≤ 10) (hb : b < w.heap.size) (hr : RowAt w b 0 (Sh.each Sh.cost ps cs)) :
    CmpGr 67 #[.pointer (some ⟨w.heap.size, 0, none⟩)] (Hs.wt ps cs) (w.heap.size + 1) (w.alloc (.cells #[.slice (some ⟨b, 0, none⟩) n cap] 53)) := by
  intro W hz hW i j hi hj
  rw [Hs.wt_len] at hi hj
  rw [hn] at hi hj
  have hz0 : (w.alloc (.cells #[.slice (some ⟨b, 0, none⟩) n cap] 53)).heap.size = w.heap.size + 1 := by simp
  rw [hz0] at hz hW
  have hB : W.cell? ⟨w.heap.size, 0, none⟩ = some (.slice (some ⟨b, 0, none⟩) n cap) := (hW _ _ (by omega) (by omega)).trans (by simp)
  have hx : ∀ k, k < n → W.cell? ⟨b, k * 2, none⟩ = some (.int .i64 (Sh.cost (ps.getD k 0) (cs.getD k 0)).1) ∧ W.cell? ⟨b, k * 2 + 1, none⟩ = some (.int .i64 (Sh.cost (ps.getD k 0) (cs.getD k 0)).2) := fun k hk => by
    obtain ⟨h1, h2⟩ := hr k (by rw [Sh.each_len, hn]; exact hk)
    rw [Sh.each_at Sh.cost ps cs (by rw [hn]; exact hk), Nat.zero_add] at h1 h2
    exact ⟨(hW _ _ (by omega) (by omega)).trans ((((Below.refl w.heap.size w).alloc (Nat.le_refl _) _).cell (p := ⟨b, k * 2, none⟩) hb).trans h1), (hW _ _ (by omega) (by omega)).trans ((((Below.refl w.heap.size w).alloc (Nat.le_refl _) _).cell (p := ⟨b, k * 2 + 1, none⟩) hb).trans h2)⟩
  obtain ⟨p1, p2⟩ := hp i hi
  obtain ⟨q1, q2⟩ := hp j hj
  obtain ⟨c1, c2⟩ := hc i hi
  obtain ⟨d1, d2⟩ := hc j hj
  rw [Hs.wt_at ps cs (i := i) (by rw [hn]; exact hi), Hs.wt_at ps cs (i := j) (by rw [hn]; exact hj)]
  exact me_any hi hj (by omega) (by omega) hB (hx i hi).1 (hx i hi).2 (hx j hj).1 (hx j hj).2 (Hs.cost_good p1 p2 c1 c2) (Hs.cost_good q1 q2 d1 d2)
    ((Hs.cross_lt (by omega) (by omega)).trans (Hs.wt_lt d1 d2 c1 c2).symm) ((Hs.cross_lt (by omega) (by omega)).trans (Hs.wt_lt c1 c2 d1 d2).symm)
set_option maxHeartbeats 2000000 in
theorem mfe_any {a b o p : Option Addr} {n m q c d e f : Nat} {ps cs : List Int} {w : World} (HM : Hid (cs.length = m)) (HR : Hid (ps.length = m)) (HF : Hid (Sh.flowB ps = true)) (HC : Hid (Hs.cntB cs = true)) (HB : Hid (ARow w b cs)) (HP : Hid (ARow w p ps)) :
    Calls Try.prog 52 #[.agg #[.slice a n c, .slice b m d, .slice o q e, .slice p m f]] w fun e w' => ∃ g, e = .returned (.slice (some ⟨g, 0, none⟩) m m) ∧ Below w.heap.size w w' ∧ w.heap.size ≤ g ∧ Ow w' g m (nats (Hs.goodsL ps cs)) := by
  have hb0 := below_new w (.cells #[.slice a n c, .slice b m d, .slice o q e, .slice p m f] 50)
  have HB1 := hide (HB.out.below hb0)
  have HP1 := hide (HP.out.below hb0)
  have HB0 := hide hb0
  have m1 : 1 ≤ m ∧ m ≤ 8 := by have := Sh.flowB_yes HF.out; have := HR.out; omega
  obtain ⟨m1, m8⟩ := m1
  have HS : Hid (Sh.sharedB ps cs = true) := hide (by
    obtain ⟨_, _, h3, h4⟩ := Hs.cntB_yes HC.out
    exact Sh.sharedB_of HF.out (by rw [HM.out, HR.out]) (Pf.allB_of fun i hi => by have := Pf.inB_yes (Pf.allB_get h3 hi); exact Pf.inB_of (by omega) (by omega)) (by omega))
  have HL : Hid ((Sh.each Sh.cost ps cs).length = m) := hide (by rw [Sh.each_len]; exact HR.out)
  have HEK := hide (eachK_any (c := f) (d := d) Sh.cost (enters_of Try.func59 (by kernel_rfl) rfl) (hide fun f c w f0 f1 c0 c1 => lowest_pos f c w (by omega) (by omega) (by omega) (by omega)) HP1 HR HB1 HS)
  clear hb0
  go_enter Try.func52, Try.ntmps52
  go_wp2_with fail
  refine HEK.out.mono ?_
  rintro _ w1 ⟨v, rfl, hb1, own1⟩
  obtain ⟨g, cap, rfl, g0, g1, row1⟩ := (frow_owns HL.out own1).resolve_left (fun h => by have := h.2; omega)
  have HB2 := hide (HB0.out.trans (hb1.mono HB0.out.size))
  have hcmp := mfe_cmp (cap := cap) HR.out (fun i hi => Sh.flowB_at HF.out (by rw [HR.out]; exact hi)) (fun i hi => Hs.cntB_at HC.out (by rw [HM.out]; exact hi)) g1 row1
  have hb2 := below_new w1 (.cells #[.slice (some ⟨g, 0, none⟩) m cap] 53)
  have hz : (w1.alloc (.cells #[.slice (some ⟨g, 0, none⟩) m cap] 53)).heap.size = w1.heap.size + 1 := by simp
  have HSN := hide (sn_g (w := w1.alloc (.cells #[.slice (some ⟨g, 0, none⟩) m cap] 53)) (cb := #[.pointer (some ⟨w1.heap.size, 0, none⟩)]) (vs := Hs.wt ps cs) (by rw [Hs.wt_len]; exact HR.out) m1 (by omega) (enters_of Try.func67 (by kernel_rfl) rfl) (by rw [hz]; exact hcmp))
  rw [hz] at HSN
  have HB3 := hide (HB2.out.trans (hb2.mono HB2.out.size))
  have HZ := hide hz
  have hwz := HB2.out.size
  clear hb1 own1 row1 hcmp hb2 hz HEK
  go_wp2_with fail
  refine HSN.out.mono ?_
  rintro _ w2 ⟨rfl, hb3, own3⟩
  obtain ⟨O3, _⟩ := Ow.mk' own3
  have HB4 := hide (HB3.out.trans (hb3.mono (by have := HB3.out.size; have := HZ.out; omega)))
  have HO := hide O3
  clear own3 O3 hb3
  go_wp2_with fail
  go_ret
  exact ⟨_, rfl, HB4.out, by omega, HO.out⟩
end Go.Proofs.Ytlbagigghpiifaa
