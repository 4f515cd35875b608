/-
  Draws of chapter 3: what goods of the model's cursor hands out: some list of goods with short names.
-/
import Derived.Test.YtegonbilomcpkaaDg
import Derived.Test.YtegonbilomcpkaaGq
import Derived.Deep.AppendLies
namespace Go.Proofs.Ytegonbilomcpkaa
open Go.RowKit

def gdf (p : Gd) : Value := .string p.1
def gdg (p : Gd) : Value := .int .i64 p.2
def Few (gs : List Gd) : Prop := ∀ x ∈ gs, x.1.size ≤ 20
theorem Few.short {gs : List Gd} (h : Few gs) : Short gs := fun i => by
  by_cases hi : i < gs.length
  · have : gs.getD i gd0 ∈ gs := by simp [List.getD_eq_getElem?_getD, hi]
    exact Nat.le_trans (h _ this) (by decide)
  · have : gs.getD i gd0 = gd0 := by simp [show gs.length ≤ i by omega]
    rw [this]; decide
theorem Few.snoc {gs : List Gd} {x : Gd} (h : Few gs) (hx : x.1.size ≤ 20) : Few (gs ++ [x]) := fun y hy => by
  rcases List.mem_append.1 hy with h1 | h1
  · exact h y h1
  · simp at h1; rw [h1]; exact hx
theorem Few.first {gs : List Gd} {x : Gd} (h : Few gs) (hx : x.1.size ≤ 20) : Few (x :: gs.tail) := fun y hy => by
  rcases List.mem_cons.1 hy with h1 | h1
  · rw [h1]; exact hx
  · exact h y (List.mem_of_mem_tail h1)
def strB (v : Value) : Bool := match v with
  | .string s => decide (s.size ≤ 20)
  | _ => false
theorem strB_yes {v : Value} (h : strB v = true) : ∃ s : ByteArray, v = .string s ∧ s.size ≤ 20 := by
  unfold strB at h
  split at h
  · exact ⟨_, rfl, by simpa using h⟩
  · cases h
theorem strs_new (w : World) (t : TypeId) {cs : Array Value} (h : cs.all strB = true) : ∀ i, i < cs.size → ∃ s : ByteArray, (w.alloc (.cells cs t)).cell? ⟨w.heap.size, i, none⟩ = some (.string s) ∧ s.size ≤ 20 := by
  intro i hi
  obtain ⟨s, hs, hz⟩ := strB_yes (Array.all_eq_true.1 h i hi)
  refine ⟨s, ?_, hz⟩
  simp only [World.cell?, (MapKept.heap_alloc w _).1]
  simp [hi, hs]
theorem strs_kp {c : Nat} {w w1 : World} {t : TypeId} {cs : Array Value} (hk : Kp c (w.alloc (.cells cs t)) w1) (hne : w.heap.size ≠ c) (h : cs.all strB = true) : ∀ i, i < cs.size → ∃ s : ByteArray, w1.cell? ⟨w.heap.size, i, none⟩ = some (.string s) ∧ s.size ≤ 20 := fun i hi => by
  obtain ⟨s, h1, h2⟩ := strs_new w t h i hi
  exact ⟨s, (hk.cell (by simp) hne).trans h1, h2⟩
theorem own_baseG {w : World} {b b' e s n : Nat} {v : Value} {xs : List Value} (h : w.ownsRow b e s v n xs) (hb : b' ≤ b) : w.ownsRow b' e s v n xs := by
  obtain ⟨h1, h⟩ := h
  refine ⟨h1, ?_⟩
  rcases h with h | ⟨g, cap, cur, rfl, h2, h3⟩
  · exact Or.inl h
  · exact Or.inr ⟨g, cap, cur, rfl, Nat.le_trans hb h2, h3⟩
theorem infG : (Try.prog.info? 68).map (fun i => (i.zero, i.size, i.bytes)) = some (some (.agg #[.string ⟨#[]⟩, .int .i64 0]), 2, 24) := by kernel_rfl
set_option maxRecDepth 100000 in
set_option maxHeartbeats 400000 in
theorem of_any {c len cap N b l k : Nat} {a : Option Addr} {w : World} (hc : Cur w c a len cap N) (hN : N ≤ 900000000) (hl : 0 < l) (hl1 : l ≤ 1000000) (hb : b < w.heap.size) (hne : b ≠ c)
    (hz : ∀ i, i < l → ∃ s, w.cell? ⟨b, i, none⟩ = some (.string s) ∧ s.size ≤ 20) :
    Calls Try.prog 57 #[.pointer (some ⟨c, 0, none⟩), .slice (some ⟨b, 0, none⟩) l k] w fun e w' => ∃ s : ByteArray, e = .returned (.string s) ∧ s.size ≤ 20 ∧ Cur w' c a len cap (N + 2) ∧ Kp c w w' := by
  have HC := hide hc
  have HZ := hide hz
  clear hc hz
  go_enter Try.func57, Try.ntmps57
  go_wp2_with fail
  refine (pick_any (l : Int) (by omega) HC.out hN).mono ?_
  rintro e w1 ⟨r, rfl, r0, r1, hc1, hk1⟩
  have HC1 := hide hc1
  clear hc1
  obtain ⟨i, rfl⟩ := Int.eq_ofNat_of_zero_le r0
  have hi : i < l := by omega
  have hi' : (i : Int) < (l : Int) := by omega
  obtain ⟨z, hcell, z0⟩ := HZ.out i hi
  have hcell' : w1.cell? ⟨b, i, none⟩ = some (.string z) := (hk1.cell hb hne).trans hcell
  clear r1
  go_wp2_with fail
  go_ret
  exact ⟨_, rfl, z0, HC1.out, hk1⟩
set_option maxRecDepth 20000 in
set_option maxHeartbeats 4000000 in
theorem goods_any {c len cap N : Nat} {a : Option Addr} {w : World} (hc : Cur w c a len cap N) (hN : N ≤ 800000000) :
    Calls Try.prog 32 #[.pointer (some ⟨c, 0, none⟩)] w fun e w' => ∃ v gs, e = .returned v ∧ gs.length ≤ 13 ∧ Few gs ∧ w'.ownsRow w.heap.size 68 2 v gs.length (pc gdf gdg gs) ∧ Cur w' c a len cap (N + 100) ∧ Kp c w w' := by
  obtain ⟨i0, hi, hz0, hz1, hz2⟩ := info_parts infG
  have hcw0 := hc.1
  have HC := hide hc
  clear hc
  go_enter Try.func32, Try.ntmps32
  go_wp2_with fail
  refine (pick_any 6 (by omega) (HC.out.below (below_alloc w _)) (by omega)).mono ?_
  rintro e w1 ⟨r1, rfl, p0, p1, hc1, hk1⟩
  have HNM : Hid (∀ k, k < 13 → ∃ s : ByteArray, w1.cell? ⟨w.heap.size, k, none⟩ = some (.string s) ∧ s.size ≤ 20) := hide (strs_kp hk1 (by omega) (by kernel_rfl))
  have hB1 : w.heap.size < w1.heap.size := by have := hk1.size; simp at this; omega
  have hBc : w.heap.size ≠ c := by omega
  have HKW : Hid (Kp c w w1) := hide (((Kp.refl c w).alloc _).trans hk1)
  have HC1 := hide hc1
  have hcw := hc1.1
  have HOLD := hide hc1.old
  clear hc1 hk1 HC
  go_upto_if 12 with (go_at_call 42; refine (one_any 20 (by omega) HC1.out (by omega)).mono ?_; rintro e w2 ⟨r2, rfl, hc2, hk2⟩; have HC2 := hide hc2; have HK2 := hide hk2; clear hc2 hk2)
  go_cut [5] (fun s5 wc => ∃ k : Nat, s5 = .int .i64 k ∧ k ≤ 13 ∧ Hid (Cur wc c a len cap (N + 6)) ∧ Hid (Kp c w1 wc))
  case first =>
    cases r2
    · go_wp2_with fail
      go_meet
      case rel => exact ⟨(1 + r1).toNat, by rw [Int.toNat_of_nonneg (by omega)], by omega, hide (HC2.out.le (by omega)), HK2⟩
    · go_wp2_with fail
      refine (amongB_any (lo := 0) (hi := 13) (HC2.out.below (below_alloc w2 _)) (by omega) (by omega) (by omega) (by simp) (by have := HC2.out.1; omega) (three_cells w2 _ (by omega) (by omega) (by omega))).mono ?_
      rintro e w3 ⟨z, rfl, z0, z1, hc3, hk3⟩
      have HK3 := hide ((HK2.out.alloc _).trans hk3)
      have HC3 := hide hc3
      clear hc3 hk3
      go_wp2_with fail
      go_meet
      case rel => exact ⟨z.toNat, by rw [Int.toNat_of_nonneg z0], by omega, hide (HC3.out.le (by omega)), HK3⟩
  case rest =>
    obtain ⟨k0, rfl, hk0, HC4, HK4⟩ := hcut
    go_wp2_with fail
    go_loopw [4, 6] (fun v s wr => ∃ (k : Nat) (gs : List Gd), s = .int .i64 k ∧ k ≤ k0 ∧ gs.length = k ∧ Hid (Few gs) ∧ wr.ownsRow w1.heap.size 68 2 v k (pc gdf gdg gs) ∧ Hid (Cur wr c a len cap (N + 6 + 2 * k)) ∧ Hid (Kp c w1 wr)) (fun _ s _ => k0 - (intOf s).toNat)
    case atStart => exact ⟨0, [], rfl, Nat.zero_le _, rfl, hide (fun x hx => by cases hx), World.ownsRow_nil _ _ _ _, hide (HC4.out.le (by simp)), HK4⟩
    case round =>
      obtain ⟨k, gs, rfl, hk, hgl, HF, hown, HCR, HKR⟩ := hrel
      have HGL := hide hgl
      clear hgl
      by_cases hlt : k < k0
      · obtain ⟨s, cs0, hss⟩ := HNM.out k (by omega)
        have cs : wr.cell? ⟨w.heap.size, k, none⟩ = some (.string s) := (HKR.out.cell hB1 hBc).trans cs0
        have hBr : w.heap.size < wr.heap.size := Nat.lt_of_lt_of_le hB1 HKR.out.size
        have k13 : (k : Int) < 13 := by omega
        have kk0 : (k : Int) < (k0 : Int) := by omega
        clear cs0
        have HCD : Hid (Cur wr.drew c a len cap (N + 6 + 2 * k)) := hide (HCR.out.blocks (w' := wr.drew) (Nat.le_refl _) rfl (fun _ _ _ _ => rfl))
        go_upto_region 9 with fail
        go_region_held3 (fun w' => w'.cell? ⟨w.heap.size, k, none⟩ = some (.string s))
          (first | exact cs | assumption | exact hSa _ | fail)
          (first
          | (go_at_call 45; refine (pick_any 9 (by omega) HCD.out (by omega)).mono ?_; rintro e w3 ⟨r3, rfl, q0, q1, hc3, hk3⟩; have hk3' : Kp c wr w3 := ⟨hk3.os, hk3.tape, hk3.output, hk3.size, hk3.block⟩; have hS := (hk3'.cell (o := k) hBr hBc).trans cs; have hB3 := Nat.lt_of_lt_of_le hBr hk3'.size; have hSa : ∀ o, (w3.alloc o).cell? ⟨w.heap.size, k, none⟩ = some (.string s) := fun o => ((below_alloc w3 o).cell (p := ⟨w.heap.size, k, none⟩) hB3).trans hS; have own3 := own_kp hown hk3' hcw; have HC3 := hide hc3; have HK3 := hide (HKR.out.trans hk3'); have hs3 := HK3.out.size; have e1 : IntKind.i64.wrap (1 + r3) = 1 + r3 := (by rw [IntKind.wrap_i64]; omega); have e2 : wrap64 (1 + r3) = 1 + r3 := wrap_id' _ (by omega) (by omega); clear hc3 hk3 hk3')
          | (refine step_append_lies _ (by rfl) _ _ _ (by rfl) w1.heap.size 68 i0 _ 2 24 Try.underlying23 hi hz0 hz1 hz2 rfl (by omega) _ _ _ (by rfl) (own3.alloc _) ⟨w3.heap.size, 0, none⟩ 1 1 [.string s, .int .i64 (1 + r3)] (by rfl) (by rfl) (new_pair _ _ _ _ rfl) (two_one rfl rfl) (by omega) (by unfold maxLen; omega) (by omega) (by simp; omega) (w3.heap.size + 1) (by simp) ?_; intro gg cap1 w6 hown' hgrow hat hlt'; have hS6 : w6.cell? ⟨w.heap.size, k, none⟩ = some (.string s) := (World.cell?_of_block (a := ⟨w.heap.size, k, none⟩) (hgrow.block w.heap.size (by simp; omega) (own_far own3 hB1))).trans (hSa _))
          | fail)
        all_goals
          have HK6 := hide (kp_grow HK3.out own3 hgrow)
          have HC6 := hide (cur_grow HC3.out hcw HOLD.out hs3 own3 hgrow)
          have HO6 : Hid (w6.ownsRow w1.heap.size 68 2 (.slice (some ⟨gg, 0, none⟩) (k + 1) cap1) (k + 1) (pc gdf gdg (gs ++ [(s, 1 + r3)]))) := hide (by rw [pc_snoc]; exact hown')
          clear hown' hgrow own3 hat hlt' hS6 hSa hS
          go_wp2_with fail
          go_roundw
          case rel => exact ⟨k + 1, gs ++ [(s, 1 + r3)], by go_num, by omega, by simp [HGL.out], hide (HF.out.snoc hss), HO6.out, hide (HC6.out.le (by omega)), HK6⟩
          case measure => simp only [intOf]; omega
      · obtain ⟨av, cv, rfl⟩ := own_shG hown
        have hke : k = k0 := by omega
        have HO := hide hown
        clear hown
        subst hke
        by_cases hl0 : k = 0
        · subst hl0
          go_wp2_with fail
          go_ret
          exact ⟨_, gs, rfl, by rw [HGL.out]; omega, HF.out, by rw [HGL.out]; exact own_baseG HO.out (Nat.le_of_lt hB1), HCR.out.le (by omega), HKW.out.trans HKR.out⟩
        · have hl1 : (0 : Int) < (k : Int) := by omega
          obtain ⟨g, cap', e1, hg0, hg1⟩ := own_some HO.out hl0
          cases e1
          go_wp2_with fail
          refine (one_any 30 (by omega) HCR.out (by omega)).mono ?_
          rintro e w3 ⟨r3, rfl, hc3, hk3⟩
          have HO3 := hide (own_kp HO.out hk3 hcw)
          have HC3 := hide hc3
          have HK3 := hide (HKR.out.trans hk3)
          clear hc3 hk3
          cases r3
          · go_wp2_with fail
            go_ret
            exact ⟨_, gs, rfl, by rw [HGL.out]; omega, HF.out, by rw [HGL.out]; exact own_baseG HO3.out (Nat.le_of_lt hB1), HC3.out.le (by omega), HKW.out.trans HK3.out⟩
          · go_wp2_with fail
            have hst : ∀ i, i < 4 → ∃ s : ByteArray, (w3.alloc (.cells #[.string ⟨#[]⟩, .string ⟨#[65]⟩, .string ⟨#[116, 111, 111, 108, 111, 110, 103, 110, 97, 109, 101]⟩, .string ⟨#[98, 111, 108, 116]⟩] 9)).cell? ⟨w3.heap.size, i, none⟩ = some (.string s) ∧ s.size ≤ 20 := strs_new w3 9 (cs := #[.string ⟨#[]⟩, .string ⟨#[65]⟩, .string ⟨#[116, 111, 111, 108, 111, 110, 103, 110, 97, 109, 101]⟩, .string ⟨#[98, 111, 108, 116]⟩]) (by kernel_rfl)
            refine (of_any (l := 4) (HC3.out.below (below_alloc w3 _)) (by omega) (by omega) (by omega) (by simp) (by have := HC3.out.1; omega) hst).mono ?_
            rintro e w4 ⟨s, rfl, hs20, hc4, hk4⟩
            have HO4 := hide (own_kp (HO3.out.alloc _) hk4 hcw)
            have HC4' := hide hc4
            have HK4' := hide ((HK3.out.alloc _).trans hk4)
            clear hc4 hk4
            go_wp2_with fail
            refine (amongB_any (lo := 0) (hi := 101) (HC4'.out.below (below_alloc w4 _)) (by omega) (by omega) (by omega) (by simp) (by have := HC4'.out.1; omega) (three_cells w4 _ (by omega) (by omega) (by omega))).mono ?_
            rintro e w5 ⟨z, rfl, z0, z1, hc5, hk5⟩
            have own5 := own_kp (HO4.out.alloc _) hk5 hcw
            have HC5' := hide hc5
            have HK5' := hide ((HK4'.out.alloc _).trans hk5)
            obtain ⟨c0, c1⟩ : (∃ u0, w5.cell? ⟨g, 0, none⟩ = some u0) ∧ (∃ u1, w5.cell? ⟨g, 1, none⟩ = some u1) := by
              obtain ⟨q0, q1⟩ := pc_get gdf gdg gd0 gs 0 (by have := HGL.out; omega)
              exact ⟨⟨_, by rw [own5.cellAt 0 (by omega)]; exact q0⟩, ⟨_, by rw [own5.cellAt 1 (by omega)]; exact q1⟩⟩
            obtain ⟨u0, c0⟩ := c0
            obtain ⟨u1, c1⟩ := c1
            have f0 := own5.frozenAt 0
            have f1 := own5.frozenAt 1
            have HST := hide (own_first HGL.out (by omega) own5 (s, z))
            have HTL : Hid (((s, z) :: gs.tail).length = k) := hide (by have := HGL.out; simp; omega)
            clear hc5 hk5 own5
            go_wp2_with fail
            go_ret
            exact ⟨_, (s, z) :: gs.tail, rfl, by rw [HTL.out]; omega, HF.out.first hs20, by rw [HTL.out]; exact own_baseG HST.out (Nat.le_of_lt hB1), (cur_set (cur_set HC5'.out hcw HOLD.out hg0) hcw HOLD.out hg0).le (by omega), HKW.out.trans (kp_set (kp_set HK5'.out hg0) hg0)⟩
end Go.Proofs.Ytegonbilomcpkaa
