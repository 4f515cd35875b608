/-
  What slices.Insert of one number at the front answers; the latest day; BestLots of the program.
-/
import Derived.Test.YticekgjgknfloaaAl14
import Derived.Test.YticekgjgknfloaaFp13
import Derived.Test.YticekgjgknfloaaShelf
namespace Go.Proofs.Yticekgjgknfloaa
open Go.RowKit

set_option maxHeartbeats 1000000 in
theorem ins14 {W : World} {base b n c : Nat} {P : List Int} {x : Int} (own : W.ownsRow base 3 1 (.slice (some ⟨b, 0, none⟩) n c) n (ints P)) (hn : P.length = n) (h1 : 1 ≤ n) (h9 : n ≤ 1000) (hb : base ≤ W.heap.size) :
    Calls Try.prog 43 #[.slice (some ⟨b, 0, none⟩) n c, .int .i64 0, .slice (some ⟨W.heap.size, 0, none⟩) 1 1] (W.alloc (.cells #[.int .i64 x] 3)) fun e w' =>
      ∃ b' c', e = .returned (.slice (some ⟨b', 0, none⟩) (n + 1) c') ∧ w'.ownsRow base 3 1 (.slice (some ⟨b', 0, none⟩) (n + 1) c') (n + 1) (ints (x :: P)) ∧ Below base W w' := by
  have own1 := own.alloc (.cells #[.int .i64 x] 3)
  obtain ⟨hbl, hbu⟩ := own.lt b rfl
  obtain ⟨hnc, ys, hyl, hyt, hfull⟩ := own_full own1
  have hcm : c ≤ maxLen := by
    rcases own.2 with ⟨h', _⟩ | ⟨g', cap', cur, h', _, _, _, h4, _⟩
    · simp at h'
    · cases h'; exact h4
  have hPl : (ints P).length = n := by simp [ints, hn]
  have hcs : ∀ j v, (ints P)[j]? = some v → (W.alloc (.cells #[.int .i64 x] 3)).cell? ⟨b, 0 + j, none⟩ = some v := fun j v h => by
    have hj : j < n := by have := (List.getElem?_eq_some_iff.1 h).1; omega
    rw [Nat.zero_add, own1.cellAt j (by omega)]; exact h
  have hvs : ∀ j v, ([Value.int .i64 x])[j]? = some v → (W.alloc (.cells #[.int .i64 x] 3)).cell? ⟨W.heap.size, 0 + j, none⟩ = some v := fun j v h => by
    have hj : j = 0 := by have := (List.getElem?_eq_some_iff.1 h).1; simpa using this
    subst hj
    simp at h
    subst h
    simp
  have h1c : ∀ v ∈ ints P, v.oneCell' = true := fun v hv => by
    obtain ⟨y, _, rfl⟩ := List.mem_map.1 hv; rfl
  have h1v : ∀ v ∈ [Value.int .i64 x], v.oneCell' = true := fun v hv => by simp at hv; subst hv; rfl
  have hB0 : Below base W (W.alloc (.cells #[.int .i64 x] 3)) := (below_new W _).mono hb
  unfold maxLen at hcm
  by_cases hroom : n + 1 ≤ c
  · refine Calls.mono (R := fun e w' => e = .returned (.slice (some ⟨b, 0, none⟩) (n + 1) c) ∧ w' = ((W.alloc (.cells #[.int .i64 x] 3)).drew.setCells b (0 + (0 + 1)) ((ints P).drop 0)).setCells b (0 + 0) [.int .i64 x]) ?_ ?_
    · exact Any2.slices_Insert_int_shift Try.lays2n21 b 0 n c 0 W.heap.size 0 1 1 (ints P) [.int .i64 x] _ (by omega) (by omega) hroom (by omega) (by omega) hPl rfl hcs
        (fun j hj => by rw [Nat.zero_add, hfull.cellAt j (by omega), List.getElem?_eq_getElem (by omega)]; rfl)
        (fun j _ => hfull.frozenAt _) hvs h1c h1v 3 3 1 c (by unfold World.shape?; rw [heap_alloc_new]; rfl) (by
          rcases hfull.2 with ⟨h', _⟩ | ⟨g', cap', cur, h', _, hg, _, _, hcs', _⟩
          · simp at h'
          · cases h'
            unfold World.shape?
            rw [hg]
            simp only [Nat.mul_one] at hcs'
            rw [← hcs']) (by omega) (by unfold World.frozen?; simp only [heap_alloc_new]; rfl) (by unfold World.frozen?; simp only [heap_alloc_new]; rfl)
    · rintro e w' ⟨rfl, rfl⟩
      have d1 := own_drew hfull
      obtain ⟨o1, b1⟩ := own_cells (ints P) ys 1 _ d1
      obtain ⟨o2, b2⟩ := own_cells [.int .i64 x] (setL ys 1 (ints P)) 0 _ o1
      refine ⟨b, c, rfl, ?_, (hB0.drew.trans b1).trans b2⟩
      have := own_prefix o2 hroom
      have e1 : (setL (setL ys 1 (ints P)) 0 [.int .i64 x]).take (n + 1) = ints (x :: P) := by
        obtain ⟨y, ys', rfl⟩ : ∃ y ys', ys = y :: ys' := by
          cases ys with
          | nil => simp at hyl; omega
          | cons y ys' => exact ⟨y, ys', rfl⟩
        rw [setL_eq [.int .i64 x] _ _ (by rw [setL_len]; simp), setL_eq (ints P) _ _ (by omega), hPl]
        simp [ints, hn]
      rw [e1] at this
      exact this
  · refine Calls.mono (R := fun e w' => e = .returned (.slice (some ⟨(W.alloc (.cells #[.int .i64 x] 3)).heap.size, 0, none⟩) (n + 1) (grownCap (W.alloc (.cells #[.int .i64 x] 3)) (n + 1) c 3)) ∧
        w' = ((((W.alloc (.cells #[.int .i64 x] 3)).alloc (.cells (((ints P).take 0).toArray ++ Builtin.zeroCells (Value.int .i64 0).cells (n + 1 - 0) ++ Builtin.zeroCells (Value.int .i64 0).cells (grownCap (W.alloc (.cells #[.int .i64 x] 3)) (n + 1) c 3 - (n + 1))) 3)).drew.setCells (W.alloc (.cells #[.int .i64 x] 3)).heap.size 0 [.int .i64 x]).drew).setCells (W.alloc (.cells #[.int .i64 x] 3)).heap.size (0 + 1) ((ints P).drop 0)) ?_ ?_
    · exact Any2.slices_Insert_int_grow Try.lays2n21 b 0 n c 0 W.heap.size 0 1 1 (ints P) [.int .i64 x] _ (by omega) (by omega) hnc (by omega) (by omega) hPl rfl hcs hvs h1c h1v
    · rintro e w' ⟨rfl, rfl⟩
      obtain ⟨cap, hcap⟩ : ∃ cap, cap = grownCap (W.alloc (.cells #[.int .i64 x] 3)) (n + 1) c 3 := ⟨_, rfl⟩
      have hge : n + 1 ≤ cap := by rw [hcap]; exact grownCap_ge _ _ _ _
      have hle : cap ≤ maxLen := by rw [hcap]; exact grownCap_le_maxLen _ _ _ _ (by unfold maxLen; omega)
      rw [← hcap]
      obtain ⟨arr, harr⟩ : ∃ arr, arr = ((ints P).take 0).toArray ++ Builtin.zeroCells (Value.int .i64 0).cells (n + 1 - 0) ++ Builtin.zeroCells (Value.int .i64 0).cells (cap - (n + 1)) := ⟨_, rfl⟩
      have hsz : arr.size = cap := by rw [harr]; simp [Builtin.zeroCells, Value.cells]; omega
      rw [← harr]
      have o0 := World.ownsRow_lit (base := base) (e := 3) (size := 1) (W.alloc (.cells #[.int .i64 x] 3)) arr cap (Nat.le_trans hb (by simp)) hle (by rw [Nat.mul_one]; exact hsz)
      have b0 : Below base W ((W.alloc (.cells #[.int .i64 x] 3)).alloc (.cells arr 3)) := hB0.trans ((below_new _ _).mono (Nat.le_trans hb (by simp)))
      obtain ⟨o1, b1⟩ := own_cells [.int .i64 x] arr.toList 0 _ (own_drew o0)
      obtain ⟨o2, b2⟩ := own_cells (ints P) _ 1 _ (own_drew o1)
      refine ⟨_, cap, rfl, ?_, ((b0.drew.trans b1).drew.trans b2)⟩
      have := own_prefix o2 hge
      have hal : arr.toList.length = cap := by simpa using hsz
      have e1 : (setL (setL arr.toList 0 [.int .i64 x]) 1 (ints P)).take (n + 1) = ints (x :: P) := by
        obtain ⟨y, ys', hy⟩ : ∃ y ys', arr.toList = y :: ys' := by
          cases h : arr.toList with
          | nil => rw [h] at hal; simp at hal; omega
          | cons y ys' => exact ⟨y, ys', rfl⟩
        rw [hy] at hal ⊢
        simp only [List.length_cons] at hal
        rw [setL_eq (ints P) _ _ (by rw [setL_len]; simp only [List.length_cons]; omega), setL_eq [.int .i64 x] _ _ (by simp), hPl]
        simp [ints, hn]
      rw [e1] at this
      exact this

set_option maxHeartbeats 1000000 in
theorem ins14_0 {W : World} {base : Nat} {x : Int} (hb : base ≤ W.heap.size) :
    Calls Try.prog 43 #[.slice none 0 0, .int .i64 0, .slice (some ⟨W.heap.size, 0, none⟩) 1 1] (W.alloc (.cells #[.int .i64 x] 3)) fun e w' =>
      ∃ b' c', e = .returned (.slice (some ⟨b', 0, none⟩) 1 c') ∧ w'.ownsRow base 3 1 (.slice (some ⟨b', 0, none⟩) 1 c') 1 (ints [x]) ∧ Below base W w' := by
  have hvs : ∀ j v, ([Value.int .i64 x])[j]? = some v → (W.alloc (.cells #[.int .i64 x] 3)).cell? ⟨W.heap.size, 0 + j, none⟩ = some v := fun j v h => by
    have hj : j = 0 := by have := (List.getElem?_eq_some_iff.1 h).1; simpa using this
    subst hj
    simp at h
    subst h
    simp
  have h1v : ∀ v ∈ [Value.int .i64 x], v.oneCell' = true := fun v hv => by simp at hv; subst hv; rfl
  have hB0 : Below base W (W.alloc (.cells #[.int .i64 x] 3)) := (below_new W _).mono hb
  refine (Any2.slices_Insert_int_end_grow Try.lays2n21 none 0 0 W.heap.size 0 1 1 [] [.int .i64 x] _ (by omega) (by omega) (by omega) (by omega) rfl rfl (fun _ => rfl) (fun a h => by cases h) hvs h1v).mono ?_
  rintro e w' ⟨rfl, rfl⟩
  obtain ⟨cap, hcap⟩ : ∃ cap, cap = grownCap (W.alloc (.cells #[.int .i64 x] 3)) (0 + 1) 0 3 := ⟨_, rfl⟩
  have hge : 0 + 1 ≤ cap := by rw [hcap]; exact grownCap_ge _ _ _ _
  have hle : cap ≤ maxLen := by rw [hcap]; exact grownCap_le_maxLen _ _ _ _ (by unfold maxLen; omega)
  obtain ⟨arr, harr⟩ : ∃ arr, arr = (([] : List Value) ++ [Value.int .i64 x]).toArray ++ Builtin.zeroCells (Value.int .i64 0).cells (cap - (0 + 1)) := ⟨_, rfl⟩
  have hsz : arr.size = cap := by rw [harr]; simp [Builtin.zeroCells, Value.cells]; omega
  have o0 := World.ownsRow_lit (base := base) (e := 3) (size := 1) (W.alloc (.cells #[.int .i64 x] 3)).drew arr cap (Nat.le_trans hb (by show _ ≤ (W.alloc (.cells #[.int .i64 x] 3)).heap.size; simp)) hle (by rw [Nat.mul_one]; exact hsz)
  have := own_prefix o0 hge
  have e1 : arr.toList.take (0 + 1) = ints [x] := by rw [harr]; simp [ints]
  rw [e1] at this
  subst hcap harr
  exact ⟨_, _, rfl, this, (hB0.drew.trans ((below_new _ _).mono (Nat.le_trans hb (by show _ ≤ (W.alloc (.cells #[.int .i64 x] 3)).heap.size; simp))))⟩
set_option maxHeartbeats 4000000 in
theorem ll14_any {a aT : Option Addr} {n c m cT t : Nat} {S K : Int} {nd TB : List Int} {w : World} (s0 : 0 ≤ S) (s1 : S ≤ 100) (k0 : 0 ≤ K) (k1 : K ≤ 10) (HN : Hid (nd.length = n)) (hn : n ≤ 10) (hc : n ≤ c) (ht1 : 1 ≤ t) (ht : t ≤ n) (HM : Hid (TB.length = m)) (hm : t < m) (HT : Hid (∀ d, d ≤ t → TB.getD d 0 = Lt.T S K (Lo.fn nd) d)) (HA : Hid (ARow w a nd)) (HA' : Hid (ARow w aT TB)) (hb : Pf.allB nd 0 20 = true) :
    Calls Try.prog 44 #[.agg #[.slice a n c, .int .i64 S, .int .i64 K], .slice aT m cT, .int .i64 (t : Int)] w fun e w' => e = .returned (.int .i64 ((Lo.last S K (Lo.fn nd) t : Nat) : Int)) ∧ Below w.heap.size w w' := by
  have hB0 := below_new w (.cells #[.slice a n c, .int .i64 S, .int .i64 K] 27)
  have pb0 := TBox.new w (.slice a n c) (.int .i64 S) (.int .i64 K) 27
  obtain ⟨w0, hw0⟩ : ∃ W, W = w.alloc (.cells #[.slice a n c, .int .i64 S, .int .i64 K] 27) := ⟨_, rfl⟩
  rw [← hw0] at hB0 pb0
  have HW0 := hide hw0.symm
  obtain ⟨B, hB⟩ : ∃ b, b = w.heap.size := ⟨_, rfl⟩
  rw [← hB] at pb0
  have HBe := hide hB.symm
  obtain ⟨p0, p1, p2, _⟩ := pb0
  have R0 := hide (HA.out.below hB0)
  have R1 := hide (HA'.out.below hB0)
  have HB0 := hide hB0
  have HCU := hide (cu_any (w := w0) (c := c) (cT := cT) s0 s1 k0 k1 HN hn hc ht HM (by omega) (hide fun d hd => HT.out d (by omega)) R0 R1 hb)
  have HLL := hide (Lo.cuL_len S K nd t)
  have HGO := hide fun (d : Nat) (hl : Lo.dn S K (Lo.fn nd) t d = Lo.last S K (Lo.fn nd) t) (h : Lo.at_ S K (Lo.fn nd) t d ≠ Lt.T S K (Lo.fn nd) t) => Lo.dn_go (show 0 < t by omega) hl h
  have HSTOP := hide fun (d : Nat) (h : Lo.at_ S K (Lo.fn nd) t d = Lt.T S K (Lo.fn nd) t) => Lo.dn_stop (S := S) (K := K) (nd := Lo.fn nd) h
  have HLA : Hid (Lo.dn S K (Lo.fn nd) t (t - 1) = Lo.last S K (Lo.fn nd) t) := hide rfl
  clear hw0 hB hB0 HA HA' hb s0 s1 k0 k1
  go_enter Try.func44, Try.ntmps44
  go_upto_region 1 with fail
  rw [HW0.out, HBe.out]
  clear HW0 HBe
  go_wp2_with fail
  refine HCU.out.mono ?_
  rintro e w1 ⟨b1, rfl, hb1, o1⟩
  have HB1 := hide (HB0.out.trans (hb1.mono HB0.out.size))
  have RT := hide (R1.out.below hb1)
  have RC := hide (arow_owns HLL.out.symm o1.1)
  obtain ⟨b2, o2, rfl, r2⟩ := RT.out.at (i := t) (by rw [HM.out]; exact hm)
  rw [HT.out t (Nat.le_refl _)] at r2
  clear hb1 o1 HCU
  go_wp2_with fail
  go_loopw [8] (fun s wr => ∃ (d q : Nat), s = .int .i64 d ∧ d < t ∧ Hid (Lo.dn S K (Lo.fn nd) t d = Lo.last S K (Lo.fn nd) t) ∧ wr = w1.drewN q) (fun s _ => (intOf s).toNat)
  case atStart => exact ⟨t - 1, 0, by congr 1; omega, by omega, HLA, rfl⟩
  case round =>
    clear HLA
    obtain ⟨d, q, rfl, hdt, HD, rfl⟩ := hrel
    obtain ⟨b3, o3, e3, r3⟩ := RC.out.at (i := d) (by rw [HLL.out]; exact hdt)
    cases e3
    rw [Nat.zero_add, Lo.cuL_at hdt] at r3
    have i0 : (0 : Int) ≤ (d : Int) := by omega
    have i1 : (d : Int) < (t : Int) := by omega
    have i2 : (0 : Int) ≤ (t : Int) := by omega
    have i3 : (t : Int) < (m : Int) := by omega
    have HG1 := hide (HGO.out d HD.out)
    have HS1 := hide (HSTOP.out d)
    generalize Lo.at_ S K (Lo.fn nd) t d = X at *
    generalize Lt.T S K (Lo.fn nd) t = Y at *
    by_cases hxy : X = Y
    · subst hxy
      have HE : Hid (Lo.last S K (Lo.fn nd) t = d) := hide (by rw [← HD.out]; exact HS1.out rfl)
      have hxx : (X != X) = false := by simp
      go_wp2_with fail
      go_quiet (fail)
      go_wp2_with fail
      go_ret
      exact ⟨by rw [HE.out]; rfl, below_drewN (below_drewN HB1.out _) _⟩
    · have hxx : (X != Y) = true := by simpa using hxy
      obtain ⟨d1, hd1⟩ := HG1.out hxy
      have HD1 := hide hd1
      clear hd1
      go_wp2_with fail
      go_quiet (fail)
      go_wp2_with fail
      go_roundw
      case rel => exact ⟨d - 1, _, by first | (congr 1; omega) | go_num, by omega, HD1, rfl⟩
      case measure => simp only [intOf]; omega
end Go.Proofs.Yticekgjgknfloaa
