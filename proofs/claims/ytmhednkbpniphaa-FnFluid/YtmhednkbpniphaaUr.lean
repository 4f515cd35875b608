/-
  What SumBounds of the program answers of bounds that are parts of one number.
-/
import Derived.Test.YtmhednkbpniphaaUq
namespace Go.Proofs.Ytmhednkbpniphaa
open Go.RowKit

theorem kept_two {w w' : World} {base e s n : Nat} {v u : Value} {xs : List Value} (h : w.ownsRow base e s u n xs) (hg : w.grownBy w' v.ownBlock) (hne : ∀ b, v.ownBlock = some b → u.ownBlock ≠ some b) : w'.ownsRow base e s u n xs :=
  h.kept hg (by
    cases hu : u.ownBlock with
    | none => exact Or.inl rfl
    | some b => exact Or.inr fun e => hne b e.symm hu)
/-- The two lists' blocks stay apart. -/
theorem apart_first {w : World} {base e s n H g : Nat} {v u : Value} {xs : List Value} (hu : w.ownsRow base e s u n xs) (hH : w.heap.size ≤ H) (hat : v.ownBlock = some g ∨ g = H) (hne : ∀ b, v.ownBlock = some b → u.ownBlock ≠ some b) : u.ownBlock ≠ some g := by
  rcases hat with h | h
  · exact hne g h
  · intro hb
    have := (hu.lt g hb).2
    omega
theorem apart_second {H g g' : Nat} {u : Value} (h1 : u.ownBlock ≠ some g) (hlt : g < H) (hat : u.ownBlock = some g' ∨ g' = H) : g ≠ g' := by
  rcases hat with h | h
  · intro e; subst e; exact h1 h
  · omega
theorem mk_two {a b c d : Int} (w w1 : World) (t : TypeId) (hb : Below (w.alloc (.cells #[.int .i64 a, .int .i64 b, .int .i64 c, .int .i64 d] t)).heap.size (w.alloc (.cells #[.int .i64 a, .int .i64 b, .int .i64 c, .int .i64 d] t)) w1) :
    w1.cell? ⟨w.heap.size, 0, none⟩ = some (.int .i64 a) ∧ w1.cell? ⟨w.heap.size, 1, none⟩ = some (.int .i64 b) ∧ w1.cell? ⟨w.heap.size, 2, none⟩ = some (.int .i64 c) ∧ w1.cell? ⟨w.heap.size, 3, none⟩ = some (.int .i64 d) ∧ w.heap.size < w1.heap.size := by
  obtain ⟨hc, _⟩ := bcell hb
  have hs := hb.size
  simp at hs
  exact ⟨(hc _ _ (by simp)).trans (by simp), (hc _ _ (by simp)).trans (by simp), (hc _ _ (by simp)).trans (by simp), (hc _ _ (by simp)).trans (by simp), by omega⟩
theorem infB : (Try.prog.info? 32).map (fun i => (i.zero, i.size, i.bytes)) = some (some (.agg #[.int .i64 0, .int .i64 0, .int .i64 0, .int .i64 0]), 4, 32) := by kernel_rfl

set_option maxRecDepth 100000 in
set_option maxHeartbeats 4000000 in
theorem sumB_any {g n cap f : Nat} {ms hs : List Nat} {w : World} (hr : Hid (Row4 w g (bnds f ms hs))) (hn : Hid (ms.length = n)) (hn' : Hid (hs.length = n)) (hg : g < w.heap.size) (n0 : 0 < n) (n8 : n ≤ 8) (f0 : 0 < f) (f1 : f ≤ 100) (hm : Hid (∀ k, k < n → ms.getD k 0 ≤ hs.getD k 0)) (hh : Hid (∀ k, k < n → hs.getD k 0 ≤ 1000)) :
    Calls Try.prog 71 #[.slice (some ⟨g, 0, none⟩) n cap] w fun e w' => e = .returned (.tuple #[.agg #[.int .i64 (Sh.mk (ms.sum : Int) f).1, .int .i64 (Sh.mk (ms.sum : Int) f).2, .int .i64 (Sh.mk (hs.sum : Int) f).1, .int .i64 (Sh.mk (hs.sum : Int) f).2], .bool true]) ∧ Below w.heap.size w w' := by
  obtain ⟨i0, hi, hz0, hz1, hz2⟩ := info_parts infF
  have h20 : ¬ (20 : Int) < (n : Int) := by omega
  go_enter Try.func71, Try.ntmps71
  go_wp2_with fail
  go_loopw [3, 4, 5, 7, 18] (fun s3 v u _ s wr => ∃ k : Nat, s3 = .bool false ∧ s = .int .i64 k ∧ k ≤ n ∧ wr.ownsRow (w.heap.size + 1) 27 2 v k (fcells ((Lg.frs f ms).take k)) ∧ wr.ownsRow (w.heap.size + 1) 27 2 u k (fcells ((Lg.frs f hs).take k)) ∧ Hid (∀ b, v.ownBlock = some b → u.ownBlock ≠ some b) ∧ Hid (Below (w.heap.size + 1) (w.alloc (.cells #[.int .i64 0, .int .i64 0, .int .i64 0, .int .i64 0] 32)) wr)) (fun _ _ _ _ s _ => n - (intOf s).toNat)
  case atStart => exact ⟨0, rfl, rfl, Nat.zero_le _, World.ownsRow_nil _ _ _ _, World.ownsRow_nil _ _ _ _, hide (fun b h => by simp [Value.ownBlock] at h), hide (Below.refl _ _)⟩
  case round =>
    obtain ⟨k, rfl, rfl, hk, hv, hu, HAP, HB⟩ := hrel
    have hBw : Below w.heap.size w wr := ((Below.refl _ _).alloc (Nat.le_refl _) _).trans (HB.out.mono (by omega))
    have hsz : w.heap.size + 1 ≤ wr.heap.size := by have := HB.out.size; simpa using this
    by_cases hlt : k < n
    · obtain ⟨r0, r1, r2, r3⟩ := (hr.out.below hBw hg) k (by rw [bnds_len, hn.out]; exact hlt)
      rw [bnds_at f ms hs (by rw [hn.out]; exact hlt)] at r0 r1 r2 r3
      have j0 : (0 : Int) ≤ (k : Int) := by omega
      have j1 : (k : Int) < (n : Int) := by omega
      have HG := hide (bnds_good f0 f1 (hm.out k hlt) (hh.out k hlt))
      have ES := hide (frs_snoc f ms (k := k) (by rw [hn.out]; exact hlt))
      have EU := hide (frs_snoc f hs (k := k) (by rw [hn'.out]; exact hlt))
      generalize Sh.mk (ms.getD k 0 : Int) f = p at *
      generalize Sh.mk (hs.getD k 0 : Int) f = q at *
      obtain ⟨a, b⟩ := p
      obtain ⟨c, d⟩ := q
      have HV := hide hv
      have HU := hide hu
      clear hv hu hBw
      go_wp2_with fail
      refine (gb_any a b c d _).mono ?_
      rw [HG.out]
      rintro e w1 ⟨rfl, hb1⟩
      obtain ⟨c0, c1, c2, c3, hA⟩ := mk_two wr w1 32 hb1
      have hb1' : Below wr.heap.size wr w1 := ((Below.refl _ _).alloc (Nat.le_refl _) _).trans (hb1.mono (by simp))
      have own1 := own_below HV.out hb1'
      have own2 := own_below HU.out hb1'
      have HB1 := hide (HB.out.trans (hb1'.mono hsz))
      have hvA : Hid (∀ x, u4.ownBlock = some x → x < wr.heap.size) := hide fun x hx => (HV.out.lt x hx).2
      have huA : Hid (∀ x, u5.ownBlock = some x → x < wr.heap.size) := hide fun x hx => (HU.out.lt x hx).2
      clear HV HU HB hb1 hb1' r0 r1 r2 r3
      have O2 := hide own2
      clear own2
      have hs1 : w.heap.size + 1 ≤ w1.heap.size := by omega
      go_wp2_with (first
        | (at_builtin; refine wpList_append_lies _ rfl _ _ 61 rfl (w.heap.size + 1) 27 i0 (.agg #[.int .i64 0, .int .i64 0]) 2 16 Try.underlying61 hi hz0 hz1 hz2 rfl (by decide) _ _ _ rfl (own1.alloc _) ⟨w1.heap.size, 0, none⟩ 1 1 [.int .i64 a, .int .i64 b] rfl rfl (new_frac _ (a, b) _ rfl) (frac_cells (a, b)) (by decide) (by unfold maxLen; omega) (by omega) (by simp; omega) (w1.heap.size + 1) (by simp) ?_))
      intro g1 cap1 w2 ownA grA hatA hltA
      have ownU := kept_two (O2.out.alloc _) grA HAP.out
      have hAPU := apart_first (O2.out) (Nat.le_succ _) hatA HAP.out
      have hsA := grA.size
      simp only [World.size_alloc] at hsA
      have hne : u4.ownBlock ≠ some wr.heap.size := fun e => by have := hvA.out _ e; omega
      have eA := grow_other grA (k := wr.heap.size) (by simp; omega) hne
      have d2 : w2.cell? ⟨wr.heap.size, 2, none⟩ = some (.int .i64 c) := by
        rw [World.cell?_of_block (a := ⟨wr.heap.size, 2, none⟩) eA]; simp [go_sem, hA, c2]
      have d3 : w2.cell? ⟨wr.heap.size, 3, none⟩ = some (.int .i64 d) := by
        rw [World.cell?_of_block (a := ⟨wr.heap.size, 3, none⟩) eA]; simp [go_sem, hA, c3]
      have HB2 := hide (HB1.out.trans (own_grow own1 grA (Nat.le_refl _) hs1))
      rw [← ES.out] at ownA
      have OA := hide ownA
      have GA := hide grA
      have HT1 := hide hatA
      clear ownA grA hatA own1 O2 c0 c1 c2 c3 eA hne HB1
      have hs2 : w.heap.size + 1 ≤ w2.heap.size := by omega
      go_wp2_with (first
        | (at_builtin; refine wpList_append_lies _ rfl _ _ 61 rfl (w.heap.size + 1) 27 i0 (.agg #[.int .i64 0, .int .i64 0]) 2 16 Try.underlying61 hi hz0 hz1 hz2 rfl (by decide) _ _ _ rfl (ownU.alloc _) ⟨w2.heap.size, 0, none⟩ 1 1 [.int .i64 c, .int .i64 d] rfl rfl (new_frac _ (c, d) _ rfl) (frac_cells (c, d)) (by decide) (by unfold maxLen; omega) (by omega) (by simp; omega) (w2.heap.size + 1) (by simp) ?_))
      intro g2 cap2 w3 ownB grB hatB hltB
      have ownV := kept_two (OA.out.alloc _) grB (fun x hx e => by simp [Value.ownBlock] at e; subst e; exact hAPU hx)
      have hne2 := apart_second hAPU (Nat.lt_of_lt_of_le hltA (Nat.le_succ _)) hatB
      have HB3 := hide (HB2.out.trans (own_grow ownU grB (Nat.le_refl _) hs2))
      rw [← EU.out] at ownB
      clear HB2 ownU OA GA HT1 grB hatB d2 d3
      go_wp2_with fail
      go_roundw
      case rel => exact ⟨k + 1, rfl, by go_num, by omega, ownV, ownB, hide (fun x hx e => by simp [Value.ownBlock] at hx e; omega), HB3⟩
      case measure => simp only [intOf]; omega
    · have hke : k = n := by omega
      subst hke
      have T1 : Hid ((Lg.frs f ms).take k = Lg.frs f ms) := hide (by rw [List.take_of_length_le]; simp [Lg.frs]; rw [hn.out]; exact Nat.le_refl _)
      have T2 : Hid ((Lg.frs f hs).take k = Lg.frs f hs) := hide (by rw [List.take_of_length_le]; simp [Lg.frs]; rw [hn'.out]; exact Nat.le_refl _)
      rw [T1.out] at hv
      rw [T2.out] at hu
      have L1 : (Lg.frs f ms).length = k := by simp [Lg.frs]; exact hn.out
      have L2 : (Lg.frs f hs).length = k := by simp [Lg.frs]; exact hn'.out
      obtain ⟨g1, cap1, rfl, _, gl1, R1⟩ := (frow_owns L1 hv).resolve_left (fun h => by have := h.2; omega)
      obtain ⟨g2, cap2, rfl, _, gl2, R2⟩ := (frow_owns L2 hu).resolve_left (fun h => by have := h.2; omega)
      have HR1 := hide R1
      have HR2 := hide R2
      have hm1 : Hid (∀ j, j < k → ms.getD j 0 ≤ 1000) := hide fun j hj => Nat.le_trans (hm.out j hj) (hh.out j hj)
      clear hv hu R1 R2 L1 L2 HAP T1 T2
      have C1 := hide (longSum_any (cap := cap1) HR1 hn gl1 n8 f0 f1 hm1)
      have C2 := hide (fun (w' : World) (h : Below wr.heap.size wr w') => longSum_any (w := w') (cap := cap2) (hide (HR2.out.below h gl2)) hn' (Nat.lt_of_lt_of_le gl2 h.size) n8 f0 f1 hh)
      generalize hp : Sh.mk (ms.sum : Int) f = p at *
      generalize hq : Sh.mk (hs.sum : Int) f = q at *
      obtain ⟨a, b⟩ := p
      obtain ⟨c, d⟩ := q
      have HPQ := hide (And.intro hp hq)
      clear hp hq
      go_wp2_with fail
      refine C1.out.mono ?_
      rintro e w1 ⟨rfl, hb1⟩
      have hz1' := hb1.size
      go_wp2_with fail
      refine (C2.out _ (hb1.alloc hb1.size _)).mono ?_
      rintro e w2 ⟨rfl, hb2⟩
      obtain ⟨hc2, hf2⟩ := bcell hb2
      have hz2' := hb2.size
      simp only [World.size_alloc] at hz2'
      have e0 : w2.cell? ⟨w1.heap.size, 0, none⟩ = some (.int .i64 a) := (hc2 _ _ (by simp)).trans (by simp)
      have e1 : w2.cell? ⟨w1.heap.size, 1, none⟩ = some (.int .i64 b) := (hc2 _ _ (by simp)).trans (by simp)
      have hB2 : Below (w.heap.size + 1) (w.alloc (.cells #[.int .i64 0, .int .i64 0, .int .i64 0, .int .i64 0] 32)) w2 := (HB.out.trans (hb1.mono hsz)).trans (((Below.refl _ _).alloc (by omega) _).trans (hb2.mono (by simp; omega)))
      have z0 : w2.cell? ⟨w.heap.size, 0, none⟩ = some (.int .i64 0) := (hB2.cell (p := ⟨w.heap.size, 0, none⟩) (Nat.lt_succ_self _)).trans (by simp)
      have z1 : w2.cell? ⟨w.heap.size, 1, none⟩ = some (.int .i64 0) := (hB2.cell (p := ⟨w.heap.size, 1, none⟩) (Nat.lt_succ_self _)).trans (by simp)
      have z2 : w2.cell? ⟨w.heap.size, 2, none⟩ = some (.int .i64 0) := (hB2.cell (p := ⟨w.heap.size, 2, none⟩) (Nat.lt_succ_self _)).trans (by simp)
      have z3 : w2.cell? ⟨w.heap.size, 3, none⟩ = some (.int .i64 0) := (hB2.cell (p := ⟨w.heap.size, 3, none⟩) (Nat.lt_succ_self _)).trans (by simp)
      have y0 : w2.frozen? ⟨w.heap.size, 0, none⟩ = false := (hB2.frozen (p := ⟨w.heap.size, 0, none⟩) (Nat.lt_succ_self _)).trans (by simp [go_sem])
      have y1 : w2.frozen? ⟨w.heap.size, 1, none⟩ = false := (hB2.frozen (p := ⟨w.heap.size, 1, none⟩) (Nat.lt_succ_self _)).trans (by simp [go_sem])
      have y2 : w2.frozen? ⟨w.heap.size, 2, none⟩ = false := (hB2.frozen (p := ⟨w.heap.size, 2, none⟩) (Nat.lt_succ_self _)).trans (by simp [go_sem])
      have y3 : w2.frozen? ⟨w.heap.size, 3, none⟩ = false := (hB2.frozen (p := ⟨w.heap.size, 3, none⟩) (Nat.lt_succ_self _)).trans (by simp [go_sem])
      have hB3 : Below w.heap.size w w2 := ((Below.refl _ _).alloc (Nat.le_refl _) _).trans (hB2.mono (Nat.le_succ _))
      have l1 : w1.heap.size < w2.heap.size := by omega
      have l2 : w.heap.size < w2.heap.size := by omega
      clear hc2 hf2 hb2 hb1 hB2 C1 C2 HB hBw HR1 HR2 hm1
      go_wp2_with fail
      exact bodyPost_ret (v := .tuple #[.agg #[.int .i64 a, .int .i64 b, .int .i64 c, .int .i64 d], .bool true]) (by simp [results, Try.results71, go_sem, *]) rfl ⟨by rw [HPQ.out.1, HPQ.out.2], (((((hB3.setCell (Nat.le_refl _) _).setCell (Nat.le_refl _) _).setCell (Nat.le_refl _) _).setCell (Nat.le_refl _) _).alloc (by simp; omega) _)⟩
end Go.Proofs.Ytmhednkbpniphaa
