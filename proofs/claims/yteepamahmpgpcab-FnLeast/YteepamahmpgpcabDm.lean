/-
  Draws of chapter 5: DrawIsWithin hands out some fraction and bounds.
-/
import Derived.Test.YteepamahmpgpcabDl
namespace Go.Proofs.Yteepamahmpgpcab
open Go.RowKit

def WI (w w' : World) (B : Nat) (p q r s : Int) : Prop := Four w' B p q r s ∧ Below w.heap.size w w'
theorem Four.other {w : World} {x y o : Nat} {p q r s : Int} {v : Value} (h : Four w x p q r s) (hne : x ≠ y) : Four (w.setCell ⟨y, o, none⟩ v) x p q r s := by
  obtain ⟨h0, h1, h2, h3, h4, h5, h6, h7, h8⟩ := h
  have hc : ∀ k, (w.setCell ⟨y, o, none⟩ v).cell? ⟨x, k, none⟩ = w.cell? ⟨x, k, none⟩ := fun k => World.cell?_setCell_other _ _ _ _ (by intro e; cases e; exact hne rfl)
  exact ⟨(hc _).trans h0, (hc _).trans h1, (hc _).trans h2, (hc _).trans h3, by simpa using h4, by simpa using h5, by simpa using h6, by simpa using h7, by simpa using h8⟩
theorem WI.set {w w' : World} {B y : Nat} {p q r s : Int} (h : WI w w' B p q r s) (hne : B ≠ y) (hy : w.heap.size ≤ y) (o : Nat) (v : Value) : WI w (w'.setCell ⟨y, o, none⟩ v) B p q r s :=
  ⟨h.1.other hne, h.2.setCell (p := ⟨y, o, none⟩) hy v⟩
theorem WI.drew {w w' : World} {B : Nat} {p q r s : Int} (h : WI w w' B p q r s) : WI w w'.drew B p q r s := ⟨h.1.below (k := B + 1) (Below.refl _ _).drew (Nat.lt_succ_self _), h.2.drew⟩
set_option maxRecDepth 100000 in
set_option maxHeartbeats 4000000 in
theorem drawIW_any {a : Option Addr} {len cap : Nat} {w : World} (hs : Hid (Src w a len)) :
    Calls Try.prog 43 #[.slice a len cap] w fun e w' => ∃ g1 g2 p q r s : Int, e = .returned (.tuple #[.agg #[.int .i64 g1, .int .i64 g2], .agg #[.int .i64 p, .int .i64 q, .int .i64 r, .int .i64 s]]) ∧ Below w.heap.size w w' := by
  have hbA : Below w.heap.size w ((w.alloc (.cells #[.int .i64 0, .int .i64 0] 35)).alloc (.cells #[.int .i64 0, .int .i64 0, .int .i64 0, .int .i64 0] 51)) := ((Below.refl _ _).alloc (Nat.le_refl _) _).alloc (by simp) _
  have HC := hide (cur_new (cap := cap) (hs.out.below hbA))
  have HR0 : Hid (Res2 ((w.alloc (.cells #[.int .i64 0, .int .i64 0] 35)).alloc (.cells #[.int .i64 0, .int .i64 0, .int .i64 0, .int .i64 0] 51)) w.heap.size) := hide (by refine ⟨?_, ?_, ?_, ?_, ?_⟩ <;> simp [go_sem])
  have HF0 : Hid (Four ((w.alloc (.cells #[.int .i64 0, .int .i64 0] 35)).alloc (.cells #[.int .i64 0, .int .i64 0, .int .i64 0, .int .i64 0] 51)) (w.heap.size + 1) 0 0 0 0) := hide (by have := Four.new (w.alloc (.cells #[.int .i64 0, .int .i64 0] 35)) 0 0 0 0 51; simpa using this)
  have HBA := hide hbA
  clear hbA
  go_enter Try.func43, Try.ntmps43
  go_wp2_with fail
  generalize hW0 : (w.alloc (.cells #[.int .i64 0, .int .i64 0] 35)).alloc (.cells #[.int .i64 0, .int .i64 0, .int .i64 0, .int .i64 0] 51) = W0 at *
  have hz0 : W0.heap.size = w.heap.size + 1 + 1 := by rw [← hW0]; simp
  have HR1 := hide (HR0.out.below (below_alloc W0 (.cells #[.slice a len cap, .int .i64 0, .int .u64 0] 78)))
  have HF1 := hide (HF0.out.below (below_alloc W0 (.cells #[.slice a len cap, .int .i64 0, .int .u64 0] 78)) HF0.out.2.2.2.2.2.2.2.2)
  have HB1 := hide (HBA.out.trans ((below_alloc W0 (.cells #[.slice a len cap, .int .i64 0, .int .u64 0] 78)).mono (by omega)))
  rw [hz0] at HC
  generalize W0.alloc (.cells #[.slice a len cap, .int .i64 0, .int .u64 0] 78) = W1 at *
  clear hW0 HR0 HF0 HBA hz0
  refine (cbounds_any HC.out (by omega)).mono ?_
  rintro e w1 ⟨p, q, r, s, rfl, hc1, hk1⟩
  have HC1 := hide (hc1.below (below_alloc w1 (.cells #[.int .i64 p, .int .i64 q, .int .i64 r, .int .i64 s] 51)))
  have HR2 := hide ((HR1.out.kp hk1 (by omega)).below (below_alloc w1 (.cells #[.int .i64 p, .int .i64 q, .int .i64 r, .int .i64 s] 51)))
  have HF2 := hide ((HF1.out.kp hk1 (by omega)).below (below_alloc w1 (.cells #[.int .i64 p, .int .i64 q, .int .i64 r, .int .i64 s] 51)) (HF1.out.kp hk1 (by omega)).2.2.2.2.2.2.2.2)
  have hb1 : Below w.heap.size W1 w1 := hk1.below (by omega) (by have := HR1.out.2.2.2.2; omega)
  have hz1 : w.heap.size + 1 < w1.heap.size := (HF1.out.kp hk1 (by omega)).2.2.2.2.2.2.2.2
  have hc1z : w.heap.size + 1 + 1 < w1.heap.size := hc1.1
  have HB2 := hide ((HB1.out.trans hb1).trans ((below_alloc w1 (.cells #[.int .i64 p, .int .i64 q, .int .i64 r, .int .i64 s] 51)).mono (by omega)))
  have HV2 := hide (Four.new w1 p q r s 51)
  clear HC HR1 HF1 HB1 hc1 hk1 hb1
  go_wp2_with fail
  generalize w1.alloc (.cells #[.int .i64 p, .int .i64 q, .int .i64 r, .int .i64 s] 51) = W2 at *
  generalize w1.heap.size = B at *
  refine (one_any 3 (by omega) HC1.out (by omega)).mono ?_
  rintro e w3 ⟨o1, rfl, hc3, hk3⟩
  have HC3 := hide hc3
  have HR3 := hide (HR2.out.kp hk3 (by omega))
  have HF3 := hide (HF2.out.kp hk3 (by omega))
  have HV3 := hide (HV2.out.kp hk3 (by omega))
  have HB3 := hide (HB2.out.trans (hk3.below (B := w.heap.size) (by omega) (by have := HR2.out.2.2.2.2; omega)))
  have hB0 : B ≠ w.heap.size := by omega
  have hB1 : B ≠ w.heap.size + 1 := by omega
  clear HC1 HR2 HF2 HV2 HB2 hc3 hk3
  cases o1
  · go_wp2_with fail
    have hSW : WI w w3 B p q r s := ⟨HV3.out, HB3.out⟩
    refine wp_region_noPanic ?_
    refine wp_region_held_drew (S := fun w' => WI w w' B p q r s) (by kernel_rfl) ⟨hSW.1.below (k := w3.heap.size) (Below.refl _ _).drew hSW.1.2.2.2.2.2.2.2.2, hSW.2.drew⟩ (fun hHeld => ?_)
    have HC3d : Hid (Cur w3.drew (w.heap.size + 1 + 1) a len cap 32) := hide (HC3.out.le (by omega))
    have HR3d : Hid (Res2 w3.drew w.heap.size) := hide HR3.out
    have HF3d : Hid (Four w3.drew (w.heap.size + 1) 0 0 0 0) := hide HF3.out
    clear HC3 HR3 HF3 HV3 HB3 hSW
    refine wpAnyH_take (i := 0) (oi := ⟨some 16, _, _, _, _, none⟩) (v := .pointer (some ⟨w.heap.size + 1 + 1, 0, none⟩)) rfl (by kernel_rfl) (by kernel_rfl) (by kernel_rfl) (fun _ _ _ h => h) (Or.inl ⟨by rfl, fun w' hSw => by clear hSw; go_simp⟩) hHeld ?_
    simp only [Act.put, List.setIfInBounds_toArray, List.set_cons_zero, List.set_cons_succ]
    refine wpAnyH_take (i := 2) (oi := ⟨some 18, _, _, _, _, none⟩) (v := .agg #[.int .i64 p, .int .i64 q, .int .i64 r, .int .i64 s]) rfl (by kernel_rfl) (by kernel_rfl) (by kernel_rfl) (fun _ _ _ h => h) (Or.inl ⟨by rfl, fun w' hSw => by obtain ⟨⟨x0, x1, x2, x3, _⟩, _⟩ := hSw; go_simp⟩) hHeld ?_
    simp only [Act.put, List.setIfInBounds_toArray, List.set_cons_zero, List.set_cons_succ]
    refine wpAnyH_ready (rs := [1]) (by kernel_rfl) (by simp) ?_
    refine AllReadyH.cons (o := ⟨some 17, _, _, _, _, none⟩) rfl (fun K hK => ?_) AllReadyH.nil
    go_simp
    refine (frac_any HC3d.out (by omega)).mono ?_
    rintro e w4 ⟨g1, g2, rfl, _, hk4⟩
    have HR4 := hide (HR3d.out.kp hk4 (by omega))
    have HF4 := hide (HF3d.out.kp hk4 (by omega))
    refine hK.out _ _ ⟨hHeld.1.kp hk4 (by omega), hHeld.2.trans (hk4.below (B := w.heap.size) (by omega) (by have := HR3d.out.2.2.2.2; omega))⟩ (fun hHeld => ?_)
    clear hK K hk4 HC3d HR3d HF3d
    obtain ⟨r0, r1, r2, r3, _⟩ := HR4.out
    obtain ⟨z0, z1, z2, z3, z4, z5, z6, z7, _⟩ := HF4.out
    clear HR4 HF4
    refine wpAnyH_ready (rs := [3]) (by kernel_rfl) (by simp) ?_
    refine AllReadyH.cons (o := ⟨none, _, _, _, _, none⟩) rfl (fun K hK => ?_) AllReadyH.nil
    go_simp
    refine hK.out _ _ ((hHeld.set hB0 (Nat.le_refl _) _ _).set hB0 (Nat.le_refl _) _ _) (fun hHeld => ?_)
    clear hK K
    refine wpAnyH_ready (rs := [4]) (by kernel_rfl) (by simp) ?_
    refine AllReadyH.cons (o := ⟨none, _, _, _, _, none⟩) rfl (fun K hK => ?_) AllReadyH.nil
    go_simp
    refine hK.out _ _ ((((hHeld.set hB1 (Nat.le_succ _) _ _).set hB1 (Nat.le_succ _) _ _).set hB1 (Nat.le_succ _) _ _).set hB1 (Nat.le_succ _) _ _) (fun hHeld => ?_)
    clear hK K
    refine wpAnyH_done (by kernel_rfl) ?_ _
    refine NoPanic.normal ?_
    have hBF := hHeld.2
    clear hHeld
    go_wp2_with fail
    exact bodyPost_ret (v := .tuple #[.agg #[.int .i64 g1, .int .i64 g2], .agg #[.int .i64 p, .int .i64 q, .int .i64 r, .int .i64 s]]) (by simp [results, Try.results43, go_sem, *]) rfl ⟨_, _, _, _, _, _, rfl, hBF⟩
  · obtain ⟨r0, r1, r2, r3, _⟩ := HR3.out
    obtain ⟨z0, z1, z2, z3, z4, z5, z6, z7, _⟩ := HF3.out
    go_wp2_with fail
    have hSW : WI w w3 B p q r s := ⟨HV3.out, HB3.out⟩
    clear HV3 HB3 HC3 HR3 HF3
    refine wp_region_noPanic ?_
    refine wp_region_held_drew (S := fun w' => WI w w' B p q r s) (by kernel_rfl) ⟨hSW.1.below (k := w3.heap.size) (Below.refl _ _).drew hSW.1.2.2.2.2.2.2.2.2, hSW.2.drew⟩ (fun hHeld => ?_)
    refine wpAnyH_take (i := 0) (oi := ⟨some 13, _, _, _, _, none⟩) (v := .pointer (some ⟨B, 0, none⟩)) rfl (by kernel_rfl) (by kernel_rfl) (by kernel_rfl) (fun _ _ _ h => h) (Or.inl ⟨by rfl, fun w' hSw => by obtain ⟨⟨x0, x1, x2, x3, _⟩, _⟩ := hSw; go_simp⟩) hHeld ?_
    simp only [Act.put, List.setIfInBounds_toArray, List.set_cons_zero, List.set_cons_succ]
    refine wpAnyH_take (i := 1) (oi := ⟨some 14, _, _, _, _, none⟩) (v := .agg #[.int .i64 p, .int .i64 q]) rfl (by kernel_rfl) (by kernel_rfl) (by kernel_rfl) (fun _ _ _ h => h) (Or.inl ⟨by rfl, fun w' hSw => by obtain ⟨⟨x0, x1, x2, x3, _⟩, _⟩ := hSw; go_simp⟩) hHeld ?_
    simp only [Act.put, List.setIfInBounds_toArray, List.set_cons_zero, List.set_cons_succ]
    refine wpAnyH_take (i := 2) (oi := ⟨some 15, _, _, _, _, none⟩) (v := .agg #[.int .i64 p, .int .i64 q, .int .i64 r, .int .i64 s]) rfl (by kernel_rfl) (by kernel_rfl) (by kernel_rfl) (fun _ _ _ h => h) (Or.inl ⟨by rfl, fun w' hSw => by obtain ⟨⟨x0, x1, x2, x3, _⟩, _⟩ := hSw; go_simp⟩) hHeld ?_
    simp only [Act.put, List.setIfInBounds_toArray, List.set_cons_zero, List.set_cons_succ]
    refine wpAnyH_ready (rs := [3]) (by kernel_rfl) (by simp) ?_
    refine AllReadyH.cons (o := ⟨none, _, _, _, _, none⟩) rfl (fun K hK => ?_) AllReadyH.nil
    go_simp
    have hS2 := (hSW.set hB0 (Nat.le_refl _) 0 (.int .i64 p)).set hB0 (Nat.le_refl _) 1 (.int .i64 q)
    refine hK.out _ _ hS2.drew (fun hHeld => ?_)
    clear hK K
    refine wpAnyH_ready (rs := [4]) (by kernel_rfl) (by simp) ?_
    refine AllReadyH.cons (o := ⟨none, _, _, _, _, none⟩) rfl (fun K hK => ?_) AllReadyH.nil
    go_simp
    have hS3 := (((hS2.set hB1 (Nat.le_succ _) 0 (.int .i64 p)).set hB1 (Nat.le_succ _) 1 (.int .i64 q)).set hB1 (Nat.le_succ _) 2 (.int .i64 r)).set hB1 (Nat.le_succ _) 3 (.int .i64 s)
    refine hK.out _ _ hS3.drew (fun hHeld => ?_)
    clear hS2 hS3 hSW
    clear hK K
    refine wpAnyH_done (by kernel_rfl) ?_ _
    refine NoPanic.normal ?_
    have hBF := hHeld.2
    clear hHeld
    go_wp2_with fail
    exact bodyPost_ret (v := .tuple #[.agg #[.int .i64 p, .int .i64 q], .agg #[.int .i64 p, .int .i64 q, .int .i64 r, .int .i64 s]]) (by simp [results, Try.results43, go_sem, *]) rfl ⟨_, _, _, _, _, _, rfl, hBF⟩
end Go.Proofs.Yteepamahmpgpcab
