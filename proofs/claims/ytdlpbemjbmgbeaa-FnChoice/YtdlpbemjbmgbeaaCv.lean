/-
  Draws of chapter 6: what offer of the model's cursor hands out: some offer.
-/
import Derived.Test.YtdlpbemjbmgbeaaR
import Derived.Test.YtdlpbemjbmgbeaaLGa
import Derived.Deep.RegionLaw
import Derived.Deep.RegionHeld3
import Derived.Deep.AppendLies
namespace Go.Proofs.Ytdlpbemjbmgbeaa
open Go.RowKit

theorem Cur.low {w w' : World} {c len cap N B : Nat} {a : Option Addr} (h : Cur w c a len cap N) (hb : Below B w w') (hc : c < B) (ho : ∀ b off, a = some ⟨b, off, none⟩ → 0 < len → b < B) : Cur w' c a len cap N := by
  obtain ⟨h1, h2, ⟨at_, h3, h4⟩, ⟨s, h5, h6, h7⟩, h8, h9, h10, h11⟩ := h
  refine ⟨Nat.lt_of_lt_of_le h1 hb.size, (hb.cell (p := ⟨c, 0, none⟩) hc).trans h2, ⟨at_, (hb.cell (p := ⟨c, 1, none⟩) hc).trans h3, h4⟩, ⟨s, (hb.cell (p := ⟨c, 2, none⟩) hc).trans h5, h6, h7⟩, (hb.frozen (p := ⟨c, 1, none⟩) hc).trans h8, (hb.frozen (p := ⟨c, 2, none⟩) hc).trans h9, ?_, fun b off e hl => ⟨(h11 b off e hl).1, Nat.lt_of_lt_of_le (h11 b off e hl).2 hb.size⟩⟩
  rcases h10 with h0 | ⟨b, off, e, hz⟩
  · exact Or.inl h0
  · by_cases hl : len = 0
    · exact Or.inl hl
    · exact Or.inr ⟨b, off, e, fun i hi => by
        obtain ⟨z, z1, z2⟩ := hz i hi
        exact ⟨z, (hb.cell (p := ⟨b, off + i, none⟩) (ho b off e (by omega))).trans z1, z2⟩⟩
theorem o_kp {w w' : World} {base e s n c : Nat} {v : Value} {xs : List Value} (h : w.ownsRow base e s v n xs) (hk : Kp c w w') (hc : c < base) : w'.ownsRow base e s v n xs := by
  refine ⟨h.1, ?_⟩
  rcases h.2 with h0 | ⟨g, cap, cur, hv, hbg, hg, r⟩
  · exact Or.inl h0
  · exact Or.inr ⟨g, cap, cur, hv, hbg, (hk.block g (Array.getElem?_eq_some_iff.1 hg).1 (by omega)).trans hg, r⟩
theorem kp_below {c B : Nat} {w0 w w' : World} (h : Kp c w0 w) (hb : Below B w w') (hB : w0.heap.size ≤ B) : Kp c w0 w' :=
  ⟨hb.os.trans h.os, hb.tape.trans h.tape, hb.output.trans h.output, Nat.le_trans h.size hb.size, fun k hk hne => (hb.block k (by omega)).trans (h.block k hk hne)⟩
/-- The offer that is being drawn, in a variable; the answer's variable; the cursor. -/
structure OI (w wr : World) (c len cap N V : Nat) (a : Option Addr) (v : Value) (xs : List Int) : Prop where
  c1 : wr.cell? ⟨V, 0, none⟩ = some v
  f1 : wr.frozen? ⟨V, 0, none⟩ = false
  own : wr.ownsRow (V + 1) 3 1 v xs.length (ints xs)
  size : V + 1 ≤ wr.heap.size
  c0 : wr.cell? ⟨w.heap.size, 0, none⟩ = some (.slice none 0 0)
  f0 : wr.frozen? ⟨w.heap.size, 0, none⟩ = false
  hV : w.heap.size < V
  cur : Cur wr c a len cap N
  kp : Kp c w wr
theorem OI.step {w wr w2 : World} {c len cap N M V : Nat} {a : Option Addr} {v : Value} {xs : List Int} (h : OI w wr c len cap N V a v xs) (hc : c < w.heap.size) (hk : Kp c wr w2) (hcur : Cur w2 c a len cap M) : OI w w2 c len cap M V a v xs :=
  ⟨(hk.cell (b := V) (o := 0) (by have := h.size; omega) (by have := h.hV; omega)).trans h.c1, (hk.frozen (b := V) (o := 0) (by have := h.size; omega) (by have := h.hV; omega)).trans h.f1, o_kp h.own hk (by have := h.hV; omega), Nat.le_trans h.size hk.size, (hk.cell (b := w.heap.size) (o := 0) (by have := h.size; have := h.hV; omega) (by omega)).trans h.c0, (hk.frozen (b := w.heap.size) (o := 0) (by have := h.size; have := h.hV; omega) (by omega)).trans h.f0, h.hV, hcur, h.kp.trans hk⟩
theorem OI.drew {w wr : World} {c len cap N V : Nat} {a : Option Addr} {v : Value} {xs : List Int} (h : OI w wr c len cap N V a v xs) : OI w wr.drew c len cap N V a v xs := ⟨h.c1, h.f1, h.own, h.size, h.c0, h.f0, h.hV, h.cur, h.kp.drewN 1⟩
theorem OI.le {w wr : World} {c len cap N M V : Nat} {a : Option Addr} {v : Value} {xs : List Int} (h : OI w wr c len cap N V a v xs) (hNM : N ≤ M) : OI w wr c len cap M V a v xs := ⟨h.c1, h.f1, h.own, h.size, h.c0, h.f0, h.hV, h.cur.le hNM, h.kp⟩
theorem fa_cell {wr w1 : World} {o : Obj} {base k b i : Nat} {v u : Value} {xs : List Value} (h : wr.ownsRow base 3 1 v k xs) (hg : (wr.alloc o).grownBy w1 v.ownBlock) (hb : b < base) (hz : base ≤ wr.heap.size) (hf : wr.cell? ⟨b, i, none⟩ = some u) : w1.cell? ⟨b, i, none⟩ = some u :=
  (hg.cell_far ⟨b, i, none⟩ (by show b < (wr.alloc o).heap.size; simp; omega) (fun he => by have := h.lt b he.symm; omega)).trans ((World.cell?_of_block (w := wr) (a := ⟨b, i, none⟩) ((o_below_new wr o).block b (by omega))).trans hf)
theorem fa_frozen {wr w1 : World} {o : Obj} {base k b i : Nat} {v : Value} {xs : List Value} (h : wr.ownsRow base 3 1 v k xs) (hg : (wr.alloc o).grownBy w1 v.ownBlock) (hb : b < base) (hz : base ≤ wr.heap.size) (hf : wr.frozen? ⟨b, i, none⟩ = false) : w1.frozen? ⟨b, i, none⟩ = false :=
  (hg.frozen_far ⟨b, i, none⟩ (by show b < (wr.alloc o).heap.size; simp; omega) (fun he => by have := h.lt b he.symm; omega)).trans ((World.frozen?_of_block (w := wr) (a := ⟨b, i, none⟩) ((o_below_new wr o).block b (by omega))).trans hf)
theorem OI.add {w wr w1 : World} {c len cap N V gg cp : Nat} {a : Option Addr} {v : Value} {xs : List Int} {x : Int} {o : Obj} (h : OI w wr c len cap N V a v xs) (hc : c < w.heap.size) (ho : ∀ b off, a = some ⟨b, off, none⟩ → 0 < len → b < w.heap.size) (hg : (wr.alloc o).grownBy w1 v.ownBlock)
    (hown : w1.ownsRow (V + 1) 3 1 (.slice (some ⟨gg, 0, none⟩) (xs.length + 1) cp) (xs.length + 1) (ints xs ++ ints [x])) : OI w (w1.setCell ⟨V, 0, none⟩ (.slice (some ⟨gg, 0, none⟩) (xs.length + 1) cp)) c len cap N V a (.slice (some ⟨gg, 0, none⟩) (xs.length + 1) cp) (xs ++ [x]) := by
  have hz := h.size
  have hV := h.hV
  have hs := hg.size
  have hs' : (wr.alloc o).heap.size = wr.heap.size + 1 := by simp
  have hB : Below w.heap.size wr (w1.setCell ⟨V, 0, none⟩ (.slice (some ⟨gg, 0, none⟩) (xs.length + 1) cp)) := by
    refine ((((Below.refl w.heap.size wr).alloc (by omega) o)).trans ⟨hg.os, hg.tape, hg.output, hg.size, fun b hb => hg.block b (by omega) fun e => ?_⟩).setCell (by show w.heap.size ≤ V; omega) _
    have := (h.own.lt b e.symm).1
    omega
  refine ⟨World.cell?_setCell_same _ _ _ (fa_cell h.own hg (by omega) hz h.c1), (World.frozen?_setCell ..).trans (fa_frozen h.own hg (by omega) hz h.f1), ?_, by simp; omega, (World.cell?_setCell_other _ _ _ _ (by simp)).trans (fa_cell h.own hg (by omega) hz h.c0), (World.frozen?_setCell ..).trans (fa_frozen h.own hg (by omega) hz h.f0), hV, h.cur.low hB hc ho, kp_below h.kp hB (Nat.le_refl _)⟩
  rw [show (xs ++ [x]).length = xs.length + 1 by simp, show ints (xs ++ [x]) = ints xs ++ ints [x] by simp [ints]]
  exact ownsRow_setCell_below hown (by show V < V + 1; omega) _
/-- What is handed out: some offer. -/
def OPost (w : World) (c len cap N : Nat) (a : Option Addr) (e : Ending) (w' : World) : Prop :=
  ∃ (v : Value) (xs : List Int), e = .returned (.agg #[v]) ∧ xs.length ≤ 6 ∧ w'.ownsRow w.heap.size 3 1 v xs.length (ints xs) ∧ Cur w' c a len cap (N + 30) ∧ Kp c w w'
theorem OI.done {w wr : World} {c len cap N V : Nat} {a : Option Addr} {v : Value} {xs : List Int} (h : OI w wr c len cap N V a v xs) (hc : c < w.heap.size) (ho : ∀ b off, a = some ⟨b, off, none⟩ → 0 < len → b < w.heap.size) :
    (wr.setCell ⟨w.heap.size, 0, none⟩ v).ownsRow w.heap.size 3 1 v xs.length (ints xs) ∧ Cur (wr.setCell ⟨w.heap.size, 0, none⟩ v) c a len cap N ∧ Kp c w (wr.setCell ⟨w.heap.size, 0, none⟩ v) := by
  have hB : Below w.heap.size wr (wr.setCell ⟨w.heap.size, 0, none⟩ v) := (Below.refl _ _).setCell (by show w.heap.size ≤ w.heap.size; omega) _
  exact ⟨owns_low (ownsRow_setCell_below h.own (by show w.heap.size < V + 1; have := h.hV; omega) _) (by have := h.hV; omega), h.cur.low hB hc ho, kp_below h.kp hB (Nat.le_refl _)⟩

set_option maxRecDepth 20000 in
set_option maxHeartbeats 1000000 in
theorem drawO_any {c len cap N : Nat} {a : Option Addr} {w : World} (hc : Cur w c a len cap N) (hN : N ≤ 700000000) (hold : ∀ b off, a = some ⟨b, off, none⟩ → 0 < len → b < w.heap.size) :
    Calls Try.prog 49 #[.pointer (some ⟨c, 0, none⟩)] w (OPost w c len cap N a) := by
  obtain ⟨i0, hi, hz0, hz1, hz2⟩ := infoI
  have hcw := hc.1
  have HOLD := hide hold
  have HC := hide (hc.below (o_below_new w (.cells #[.slice none 0 0] 36)))
  clear hc hold
  go_enter Try.func49, Try.ntmps49
  go_wp2_with fail
  refine (one_any 3 (by omega) HC.out (by omega)).mono ?_
  rintro e w1 ⟨r1, rfl, hc1, hk1⟩
  have HK1 : Hid (Kp c w w1) := hide ((Kp.of_below (o_below_new w _)).trans hk1)
  have q0 : w1.cell? ⟨w.heap.size, 0, none⟩ = some (.slice none 0 0) := (hk1.cell (b := w.heap.size) (o := 0) (by simp) (by omega)).trans (by simp [go_sem])
  have q1 : w1.frozen? ⟨w.heap.size, 0, none⟩ = false := (hk1.frozen (b := w.heap.size) (o := 0) (by simp) (by omega)).trans (by simp [go_sem])
  have hz1' : w.heap.size < w1.heap.size := by have := hk1.size; simp at this; omega
  have HC1 := hide hc1
  clear hc1 hk1 HC
  cases r1
  · have HO0 : Hid (OI w (w1.alloc (.cells #[.slice none 0 0] 36)) c len cap (N + 2) w1.heap.size a (.slice none 0 0) []) := hide ⟨by simp [go_sem], by simp [go_sem], World.ownsRow_nil _ _ _ _, by simp, ((o_below_new w1 _).cell (p := ⟨w.heap.size, 0, none⟩) hz1').trans q0, ((o_below_new w1 _).frozen (p := ⟨w.heap.size, 0, none⟩) hz1').trans q1, hz1', HC1.out.below (o_below_new _ _), HK1.out.trans (Kp.of_below (o_below_new _ _))⟩
    go_wp2_with fail
    generalize w1.alloc (.cells #[.slice none 0 0] 36) = W1 at *
    generalize w1.heap.size = V at *
    refine (pick_any 5 (by omega) HO0.out.cur (by omega)).mono ?_
    rintro e w2 ⟨r2, rfl, hr20, hr21, hc2, hk2⟩
    have HO2 := hide (HO0.out.step hcw hk2 hc2)
    obtain ⟨m, hm⟩ : ∃ m : Nat, r2 = (m : Int) := ⟨r2.toNat, by omega⟩
    subst hm
    have hm4 : m ≤ 4 := by omega
    clear hc2 hk2 HO0
    go_wp2_with fail
    go_loopw [6] (fun s wr => ∃ (k : Nat) (v : Value) (xs : List Int), s = .int .i64 k ∧ k + xs.length = m ∧ Hid (OI w wr c len cap (N + 4 + 2 * xs.length) V a v xs)) (fun s _ => (intOf s).toNat)
    case atStart => exact ⟨m, _, [], rfl, by simp, HO2⟩
    case round =>
      obtain ⟨k, v, xs, rfl, hkm, HO⟩ := hrel
      clear HO2
      cases k with
      | succ k =>
        have i1 : (0 : Int) < ((k + 1 : Nat) : Int) := by omega
        have c1 := HO.out.c1
        have hxl : xs.length ≤ 3 := by omega
        have hf1 := HO.out.f1
        have HOD := hide HO.out.drew
        go_wp2_with fail
        refine wp_region_noPanic ?_
        refine wp_region_held_drew (S := fun _ => True) (by kernel_rfl) trivial (fun hHeld => ?_)
        refine wpAnyH_take (i := 0) (oi := ⟨some 31, _, _, _, _, none⟩) (v := .pointer (some ⟨V, 0, none⟩)) rfl (by kernel_rfl) (by kernel_rfl) (by kernel_rfl) (fun _ _ _ h => h) (Or.inl ⟨by rfl, fun w' hSw => by clear hSw; go_simp⟩) hHeld ?_
        simp only [Act.put, List.setIfInBounds_toArray, List.set_cons_zero, List.set_cons_succ]
        refine wpAnyH_take (i := 2) (oi := ⟨some 33, _, _, _, _, none⟩) (v := .pointer (some ⟨c, 0, none⟩)) rfl (by kernel_rfl) (by kernel_rfl) (by kernel_rfl) (fun _ _ _ h => h) (Or.inl ⟨by rfl, fun w' hSw => by clear hSw; go_simp⟩) hHeld ?_
        simp only [Act.put, List.setIfInBounds_toArray, List.set_cons_zero, List.set_cons_succ]
        refine wpAnyH_ready (rs := [1, 3]) (by kernel_rfl) (by simp) ?_
        refine AllReadyH.cons (o := ⟨some 32, _, _, _, _, none⟩) rfl (fun K hK => ?_) (AllReadyH.cons (o := ⟨some 34, _, _, _, _, none⟩) rfl (fun K hK => ?_) AllReadyH.nil)
        · go_simp
          refine hK.out _ _ trivial (fun hHeld => ?_)
          clear hK K
          refine wpAnyH_ready (rs := [3]) (by kernel_rfl) (by simp) ?_
          refine AllReadyH.cons (o := ⟨some 34, _, _, _, _, none⟩) rfl (fun K hK => ?_) AllReadyH.nil
          go_simp
          refine (pick_any 31 (by omega) HOD.out.cur (by omega)).mono ?_
          rintro e w3 ⟨r3, rfl, hr30, hr31, hc3, hk3⟩
          have HO3 := hide (HOD.out.step hcw hk3 hc3)
          have c3 := HO3.out.c1
          have hz3 := HO3.out.size
          have u3 : IntKind.i64.wrap (r3 - 10) = r3 - 10 := by rw [IntKind.wrap_i64]; omega
          have ca : ∀ o : Obj, (w3.alloc o).cell? ⟨V, 0, none⟩ = some v := fun o => ((o_below_new w3 o).cell (p := ⟨V, 0, none⟩) (show V < w3.heap.size by omega)).trans c3
          clear hc3 hk3
          refine hK.out _ _ trivial (fun hHeld => ?_)
          clear hK K
          refine wpAnyH_take (i := 4) (oi := ⟨some 35, _, _, _, _, none⟩) (v := .int .i64 (r3 - 10)) rfl (by kernel_rfl) (by kernel_rfl) (by kernel_rfl) (fun _ _ _ h => h) (Or.inl ⟨by rfl, fun w' hSw => by clear hSw; go_simp⟩) hHeld ?_
          simp only [Act.put, List.setIfInBounds_toArray, List.set_cons_zero, List.set_cons_succ]
          refine wpAnyH_ready (rs := [5]) (by kernel_rfl) (by simp) ?_
          refine AllReadyH.cons (o := ⟨some 36, _, _, _, _, none⟩) rfl (fun K hK => ?_) AllReadyH.nil
          go_simp
          refine hK.out _ _ trivial (fun hHeld => ?_)
          clear hK K
          refine wpAnyH_ready (rs := [6]) (by kernel_rfl) (by simp) ?_
          refine AllReadyH.cons (o := ⟨some 37, _, _, _, _, none⟩) rfl (fun K hK => ?_) AllReadyH.nil
          refine step_append_lies _ (by rfl) _ _ _ (by rfl) (V + 1) 3 i0 _ 1 8 Try.underlying26 hi hz0 hz1 hz2 rfl (by omega) v xs.length (ints xs) (by rfl) (HO3.out.own.alloc _) ⟨w3.heap.size, 0, none⟩ 1 1 (ints [r3 - 10]) (by rfl) (by rfl) (World.news_of_block (cs := #[.int .i64 (r3 - 10)]) (t := 3) (fr := (0, 0)) (heap_alloc_new w3 _)) (c_ints _) (by omega) (by unfold maxLen; omega) (by omega) (by simp; omega) (w3.heap.size + 1) (by simp) ?_
          intro gg cp w4 hown4 hgrow4 hat hlt'
          have F0' := fa_frozen HO3.out.own hgrow4 (show V < V + 1 by omega) hz3 HO3.out.f1
          have C0' := fa_cell HO3.out.own hgrow4 (show V < V + 1 by omega) hz3 c3
          refine hK.out _ _ trivial (fun hHeld => ?_)
          clear hK K
          refine wpAnyH_take (i := 7) (oi := ⟨some 38, _, _, _, _, none⟩) (v := .pointer (some ⟨V, 0, none⟩)) rfl (by kernel_rfl) (by kernel_rfl) (by kernel_rfl) (fun _ _ _ h => h) (Or.inl ⟨by rfl, fun w' hSw => by clear hSw; go_simp⟩) hHeld ?_
          simp only [Act.put, List.setIfInBounds_toArray, List.set_cons_zero, List.set_cons_succ]
          refine wpAnyH_ready (rs := [8]) (by kernel_rfl) (by simp) ?_
          refine AllReadyH.cons (o := ⟨none, _, _, _, _, none⟩) rfl (fun K hK => ?_) AllReadyH.nil
          go_simp
          refine hK.out _ _ trivial (fun hHeld => ?_)
          clear hK K
          refine wpAnyH_done (by kernel_rfl) ?_ _
          refine NoPanic.normal ?_
          clear hHeld
          go_wp2_with fail
          exact ⟨⟨k, _, xs ++ [r3 - 10], by go_num, by simp; omega, hide ((HO3.out.add hcw HOLD.out hgrow4 hown4).le (by simp; omega))⟩, by simp only [intOf]; omega⟩
        · go_simp
          refine (pick_any 31 (by omega) HOD.out.cur (by omega)).mono ?_
          rintro e w3 ⟨r3, rfl, hr30, hr31, hc3, hk3⟩
          have HO3 := hide (HOD.out.step hcw hk3 hc3)
          have c3 := HO3.out.c1
          have hz3 := HO3.out.size
          have u3 : IntKind.i64.wrap (r3 - 10) = r3 - 10 := by rw [IntKind.wrap_i64]; omega
          have ca : ∀ o : Obj, (w3.alloc o).cell? ⟨V, 0, none⟩ = some v := fun o => ((o_below_new w3 o).cell (p := ⟨V, 0, none⟩) (show V < w3.heap.size by omega)).trans c3
          clear hc3 hk3
          refine hK.out _ _ trivial (fun hHeld => ?_)
          clear hK K
          refine wpAnyH_take (i := 4) (oi := ⟨some 35, _, _, _, _, none⟩) (v := .int .i64 (r3 - 10)) rfl (by kernel_rfl) (by kernel_rfl) (by kernel_rfl) (fun _ _ _ h => h) (Or.inl ⟨by rfl, fun w' hSw => by clear hSw; go_simp⟩) hHeld ?_
          simp only [Act.put, List.setIfInBounds_toArray, List.set_cons_zero, List.set_cons_succ]
          refine wpAnyH_ready (rs := [1, 5]) (by kernel_rfl) (by simp) ?_
          refine AllReadyH.cons (o := ⟨some 32, _, _, _, _, none⟩) rfl (fun K hK => ?_) (AllReadyH.cons (o := ⟨some 36, _, _, _, _, none⟩) rfl (fun K hK => ?_) AllReadyH.nil)
          · go_simp
            refine hK.out _ _ trivial (fun hHeld => ?_)
            clear hK K
            refine wpAnyH_ready (rs := [5]) (by kernel_rfl) (by simp) ?_
            refine AllReadyH.cons (o := ⟨some 36, _, _, _, _, none⟩) rfl (fun K hK => ?_) AllReadyH.nil
            go_simp
            refine hK.out _ _ trivial (fun hHeld => ?_)
            clear hK K
            refine wpAnyH_ready (rs := [6]) (by kernel_rfl) (by simp) ?_
            refine AllReadyH.cons (o := ⟨some 37, _, _, _, _, none⟩) rfl (fun K hK => ?_) AllReadyH.nil
            refine step_append_lies _ (by rfl) _ _ _ (by rfl) (V + 1) 3 i0 _ 1 8 Try.underlying26 hi hz0 hz1 hz2 rfl (by omega) v xs.length (ints xs) (by rfl) (HO3.out.own.alloc _) ⟨w3.heap.size, 0, none⟩ 1 1 (ints [r3 - 10]) (by rfl) (by rfl) (World.news_of_block (cs := #[.int .i64 (r3 - 10)]) (t := 3) (fr := (0, 0)) (heap_alloc_new w3 _)) (c_ints _) (by omega) (by unfold maxLen; omega) (by omega) (by simp; omega) (w3.heap.size + 1) (by simp) ?_
            intro gg cp w4 hown4 hgrow4 hat hlt'
            have F0' := fa_frozen HO3.out.own hgrow4 (show V < V + 1 by omega) hz3 HO3.out.f1
            have C0' := fa_cell HO3.out.own hgrow4 (show V < V + 1 by omega) hz3 c3
            refine hK.out _ _ trivial (fun hHeld => ?_)
            clear hK K
            refine wpAnyH_take (i := 7) (oi := ⟨some 38, _, _, _, _, none⟩) (v := .pointer (some ⟨V, 0, none⟩)) rfl (by kernel_rfl) (by kernel_rfl) (by kernel_rfl) (fun _ _ _ h => h) (Or.inl ⟨by rfl, fun w' hSw => by clear hSw; go_simp⟩) hHeld ?_
            simp only [Act.put, List.setIfInBounds_toArray, List.set_cons_zero, List.set_cons_succ]
            refine wpAnyH_ready (rs := [8]) (by kernel_rfl) (by simp) ?_
            refine AllReadyH.cons (o := ⟨none, _, _, _, _, none⟩) rfl (fun K hK => ?_) AllReadyH.nil
            go_simp
            refine hK.out _ _ trivial (fun hHeld => ?_)
            clear hK K
            refine wpAnyH_done (by kernel_rfl) ?_ _
            refine NoPanic.normal ?_
            clear hHeld
            go_wp2_with fail
            exact ⟨⟨k, _, xs ++ [r3 - 10], by go_num, by simp; omega, hide ((HO3.out.add hcw HOLD.out hgrow4 hown4).le (by simp; omega))⟩, by simp only [intOf]; omega⟩
          · go_simp
            refine hK.out _ _ trivial (fun hHeld => ?_)
            clear hK K
            refine wpAnyH_ready (rs := [1]) (by kernel_rfl) (by simp) ?_
            refine AllReadyH.cons (o := ⟨some 32, _, _, _, _, none⟩) rfl (fun K hK => ?_) AllReadyH.nil
            go_simp
            refine hK.out _ _ trivial (fun hHeld => ?_)
            clear hK K
            refine wpAnyH_ready (rs := [6]) (by kernel_rfl) (by simp) ?_
            refine AllReadyH.cons (o := ⟨some 37, _, _, _, _, none⟩) rfl (fun K hK => ?_) AllReadyH.nil
            refine step_append_lies _ (by rfl) _ _ _ (by rfl) (V + 1) 3 i0 _ 1 8 Try.underlying26 hi hz0 hz1 hz2 rfl (by omega) v xs.length (ints xs) (by rfl) (HO3.out.own.alloc _) ⟨w3.heap.size, 0, none⟩ 1 1 (ints [r3 - 10]) (by rfl) (by rfl) (World.news_of_block (cs := #[.int .i64 (r3 - 10)]) (t := 3) (fr := (0, 0)) (heap_alloc_new w3 _)) (c_ints _) (by omega) (by unfold maxLen; omega) (by omega) (by simp; omega) (w3.heap.size + 1) (by simp) ?_
            intro gg cp w4 hown4 hgrow4 hat hlt'
            have F0' := fa_frozen HO3.out.own hgrow4 (show V < V + 1 by omega) hz3 HO3.out.f1
            have C0' := fa_cell HO3.out.own hgrow4 (show V < V + 1 by omega) hz3 c3
            refine hK.out _ _ trivial (fun hHeld => ?_)
            clear hK K
            refine wpAnyH_take (i := 7) (oi := ⟨some 38, _, _, _, _, none⟩) (v := .pointer (some ⟨V, 0, none⟩)) rfl (by kernel_rfl) (by kernel_rfl) (by kernel_rfl) (fun _ _ _ h => h) (Or.inl ⟨by rfl, fun w' hSw => by clear hSw; go_simp⟩) hHeld ?_
            simp only [Act.put, List.setIfInBounds_toArray, List.set_cons_zero, List.set_cons_succ]
            refine wpAnyH_ready (rs := [8]) (by kernel_rfl) (by simp) ?_
            refine AllReadyH.cons (o := ⟨none, _, _, _, _, none⟩) rfl (fun K hK => ?_) AllReadyH.nil
            go_simp
            refine hK.out _ _ trivial (fun hHeld => ?_)
            clear hK K
            refine wpAnyH_done (by kernel_rfl) ?_ _
            refine NoPanic.normal ?_
            clear hHeld
            go_wp2_with fail
            exact ⟨⟨k, _, xs ++ [r3 - 10], by go_num, by simp; omega, hide ((HO3.out.add hcw HOLD.out hgrow4 hown4).le (by simp; omega))⟩, by simp only [intOf]; omega⟩
      | zero =>
        have hxm : xs.length ≤ 4 := by omega
        go_wp2_with fail
        refine (one_any 40 (by omega) HO.out.cur (by omega)).mono ?_
        rintro e w5 ⟨r5, rfl, hc5, hk5⟩
        have HO5 := hide (HO.out.step hcw hk5 hc5)
        have d1 := HO5.out.c1
        have d0 := HO5.out.c0
        have df := HO5.out.f0
        clear hc5 hk5 HO
        cases r5
        · have HD := hide (HO5.out.done hcw HOLD.out)
          obtain ⟨av, cv, rfl⟩ : ∃ av cv, v = .slice av xs.length cv := by
            rcases HO5.out.own.2 with ⟨hv, hn⟩ | ⟨g, cp, cur, hv, _⟩
            · exact ⟨none, 0, by rw [hn]; exact hv⟩
            · exact ⟨_, _, hv⟩
          go_wp2_with fail
          exact bodyPost_ret (v := .agg #[.slice av xs.length cv]) (by simp [results, Try.results49, go_sem, d0]) rfl ⟨_, xs, rfl, by omega, HD.out.1, HD.out.2.1.le (by omega), HD.out.2.2⟩
        · have HOA : Hid (OI w (w5.alloc (.cells #[.int .i64 1000, .int .i64 1001, .int .i64 (-1000), .int .i64 (-1001)] 3)).drew c len cap (N + 4 + 2 * xs.length + 2) V a v xs) := hide (HO5.out.step hcw (Kp.of_below (o_below_new w5 (.cells #[.int .i64 1000, .int .i64 1001, .int .i64 (-1000), .int .i64 (-1001)] 3))) (HO5.out.cur.below (o_below_new w5 (.cells #[.int .i64 1000, .int .i64 1001, .int .i64 (-1000), .int .i64 (-1001)] 3)))).drew
          have hz5 := HO5.out.size
          have hbA : w5.heap.size < (w5.alloc (.cells #[.int .i64 1000, .int .i64 1001, .int .i64 (-1000), .int .i64 (-1001)] 3)).drew.heap.size := by simp
          have hneA : w5.heap.size ≠ c := by have := HO5.out.hV; omega
          have HZA : Hid (∀ i, i < 4 → ∃ z : Int, (w5.alloc (.cells #[.int .i64 1000, .int .i64 1001, .int .i64 (-1000), .int .i64 (-1001)] 3)).drew.cell? ⟨w5.heap.size, i, none⟩ = some (.int .i64 z)) := hide fun i hi => by
            match i, hi with
            | 0, _ => exact ⟨1000, by simp [go_sem]⟩
            | 1, _ => exact ⟨1001, by simp [go_sem]⟩
            | 2, _ => exact ⟨-1000, by simp [go_sem]⟩
            | 3, _ => exact ⟨-1001, by simp [go_sem]⟩
          have ca5 : ∀ o : Obj, (w5.alloc o).cell? ⟨V, 0, none⟩ = some v := fun o => ((o_below_new w5 o).cell (p := ⟨V, 0, none⟩) (show V < w5.heap.size by omega)).trans d1
          go_wp2_with fail
          refine wp_region_noPanic ?_
          refine wp_region_held_drew (S := fun _ => True) (by kernel_rfl) trivial (fun hHeld => ?_)
          refine wpAnyH_take (i := 0) (oi := ⟨some 41, _, _, _, _, none⟩) (v := .pointer (some ⟨V, 0, none⟩)) rfl (by kernel_rfl) (by kernel_rfl) (by kernel_rfl) (fun _ _ _ h => h) (Or.inl ⟨by rfl, fun w' hSw => by clear hSw; go_simp⟩) hHeld ?_
          simp only [Act.put, List.setIfInBounds_toArray, List.set_cons_zero, List.set_cons_succ]
          refine wpAnyH_take (i := 2) (oi := ⟨some 43, _, _, _, _, none⟩) (v := .pointer (some ⟨c, 0, none⟩)) rfl (by kernel_rfl) (by kernel_rfl) (by kernel_rfl) (fun _ _ _ h => h) (Or.inl ⟨by rfl, fun w' hSw => by clear hSw; go_simp⟩) hHeld ?_
          simp only [Act.put, List.setIfInBounds_toArray, List.set_cons_zero, List.set_cons_succ]
          refine wpAnyH_ready (rs := [1, 3]) (by kernel_rfl) (by simp) ?_
          refine AllReadyH.cons (o := ⟨some 42, _, _, _, _, none⟩) rfl (fun K hK => ?_) (AllReadyH.cons (o := ⟨some 44, _, _, _, _, none⟩) rfl (fun K hK => ?_) AllReadyH.nil)
          · go_simp
            refine hK.out _ _ trivial (fun hHeld => ?_)
            clear hK K
            refine wpAnyH_ready (rs := [3]) (by kernel_rfl) (by simp) ?_
            refine AllReadyH.cons (o := ⟨some 44, _, _, _, _, none⟩) rfl (fun K hK => ?_) AllReadyH.nil
            go_simp
            refine hK.out _ _ trivial (fun hHeld => ?_)
            clear hK K
            refine wpAnyH_ready (rs := [4]) (by kernel_rfl) (by simp) ?_
            refine AllReadyH.cons (o := ⟨some 45, _, _, _, _, none⟩) rfl (fun K hK => ?_) AllReadyH.nil
            go_simp
            refine (among_any HOA.out.cur (by omega) (by omega) (by omega) hbA hneA HZA.out).mono ?_
            rintro e w6 ⟨r6, rfl, hc6, hk6⟩
            have HO6 := hide (HOA.out.step hcw hk6 hc6)
            have c6 := HO6.out.c1
            have hz6 := HO6.out.size
            have ca6 : ∀ o : Obj, (w6.alloc o).cell? ⟨V, 0, none⟩ = some v := fun o => ((o_below_new w6 o).cell (p := ⟨V, 0, none⟩) (show V < w6.heap.size by omega)).trans c6
            clear hc6 hk6
            refine hK.out _ _ trivial (fun hHeld => ?_)
            clear hK K
            refine wpAnyH_ready (rs := [5]) (by kernel_rfl) (by simp) ?_
            refine AllReadyH.cons (o := ⟨some 46, _, _, _, _, none⟩) rfl (fun K hK => ?_) AllReadyH.nil
            go_simp
            refine hK.out _ _ trivial (fun hHeld => ?_)
            clear hK K
            refine wpAnyH_ready (rs := [6]) (by kernel_rfl) (by simp) ?_
            refine AllReadyH.cons (o := ⟨some 47, _, _, _, _, none⟩) rfl (fun K hK => ?_) AllReadyH.nil
            refine step_append_lies _ (by rfl) _ _ _ (by rfl) (V + 1) 3 i0 _ 1 8 Try.underlying26 hi hz0 hz1 hz2 rfl (by omega) v xs.length (ints xs) (by rfl) (HO6.out.own.alloc _) ⟨w6.heap.size, 0, none⟩ 1 1 (ints [r6]) (by rfl) (by rfl) (World.news_of_block (cs := #[.int .i64 r6]) (t := 3) (fr := (0, 0)) (heap_alloc_new w6 _)) (c_ints _) (by omega) (by unfold maxLen; omega) (by omega) (by simp; omega) (w6.heap.size + 1) (by simp) ?_
            intro gg cp w7 hown7 hgrow7 hat hlt'
            have F0' := fa_frozen HO6.out.own hgrow7 (show V < V + 1 by omega) hz6 HO6.out.f1
            have C0' := fa_cell HO6.out.own hgrow7 (show V < V + 1 by omega) hz6 c6
            refine hK.out _ _ trivial (fun hHeld => ?_)
            clear hK K
            refine wpAnyH_take (i := 7) (oi := ⟨some 48, _, _, _, _, none⟩) (v := .pointer (some ⟨V, 0, none⟩)) rfl (by kernel_rfl) (by kernel_rfl) (by kernel_rfl) (fun _ _ _ h => h) (Or.inl ⟨by rfl, fun w' hSw => by clear hSw; go_simp⟩) hHeld ?_
            simp only [Act.put, List.setIfInBounds_toArray, List.set_cons_zero, List.set_cons_succ]
            refine wpAnyH_ready (rs := [8]) (by kernel_rfl) (by simp) ?_
            refine AllReadyH.cons (o := ⟨none, _, _, _, _, none⟩) rfl (fun K hK => ?_) AllReadyH.nil
            go_simp
            refine hK.out _ _ trivial (fun hHeld => ?_)
            clear hK K
            refine wpAnyH_done (by kernel_rfl) ?_ _
            refine NoPanic.normal ?_
            clear hHeld
            have HO8 := hide (HO6.out.add hcw HOLD.out hgrow7 hown7)
            have d1 := HO8.out.c1
            have d0 := HO8.out.c0
            have df := HO8.out.f0
            have HD := hide (HO8.out.done hcw HOLD.out)
            generalize w7.setCell ⟨V, 0, none⟩ (.slice (some ⟨gg, 0, none⟩) (xs.length + 1) cp) = W8 at *
            clear F0' C0' hown7 hgrow7
            go_wp2_with fail
            exact bodyPost_ret (v := .agg #[.slice (some ⟨gg, 0, none⟩) (xs.length + 1) cp]) (by simp [results, Try.results49, go_sem, d0]) rfl ⟨_, xs ++ [r6], rfl, by simp; omega, HD.out.1, HD.out.2.1.le (by omega), HD.out.2.2⟩
          · go_simp
            refine hK.out _ _ trivial (fun hHeld => ?_)
            clear hK K
            refine wpAnyH_ready (rs := [1, 4]) (by kernel_rfl) (by simp) ?_
            refine AllReadyH.cons (o := ⟨some 42, _, _, _, _, none⟩) rfl (fun K hK => ?_) (AllReadyH.cons (o := ⟨some 45, _, _, _, _, none⟩) rfl (fun K hK => ?_) AllReadyH.nil)
            · go_simp
              refine hK.out _ _ trivial (fun hHeld => ?_)
              clear hK K
              refine wpAnyH_ready (rs := [4]) (by kernel_rfl) (by simp) ?_
              refine AllReadyH.cons (o := ⟨some 45, _, _, _, _, none⟩) rfl (fun K hK => ?_) AllReadyH.nil
              go_simp
              refine (among_any HOA.out.cur (by omega) (by omega) (by omega) hbA hneA HZA.out).mono ?_
              rintro e w6 ⟨r6, rfl, hc6, hk6⟩
              have HO6 := hide (HOA.out.step hcw hk6 hc6)
              have c6 := HO6.out.c1
              have hz6 := HO6.out.size
              have ca6 : ∀ o : Obj, (w6.alloc o).cell? ⟨V, 0, none⟩ = some v := fun o => ((o_below_new w6 o).cell (p := ⟨V, 0, none⟩) (show V < w6.heap.size by omega)).trans c6
              clear hc6 hk6
              refine hK.out _ _ trivial (fun hHeld => ?_)
              clear hK K
              refine wpAnyH_ready (rs := [5]) (by kernel_rfl) (by simp) ?_
              refine AllReadyH.cons (o := ⟨some 46, _, _, _, _, none⟩) rfl (fun K hK => ?_) AllReadyH.nil
              go_simp
              refine hK.out _ _ trivial (fun hHeld => ?_)
              clear hK K
              refine wpAnyH_ready (rs := [6]) (by kernel_rfl) (by simp) ?_
              refine AllReadyH.cons (o := ⟨some 47, _, _, _, _, none⟩) rfl (fun K hK => ?_) AllReadyH.nil
              refine step_append_lies _ (by rfl) _ _ _ (by rfl) (V + 1) 3 i0 _ 1 8 Try.underlying26 hi hz0 hz1 hz2 rfl (by omega) v xs.length (ints xs) (by rfl) (HO6.out.own.alloc _) ⟨w6.heap.size, 0, none⟩ 1 1 (ints [r6]) (by rfl) (by rfl) (World.news_of_block (cs := #[.int .i64 r6]) (t := 3) (fr := (0, 0)) (heap_alloc_new w6 _)) (c_ints _) (by omega) (by unfold maxLen; omega) (by omega) (by simp; omega) (w6.heap.size + 1) (by simp) ?_
              intro gg cp w7 hown7 hgrow7 hat hlt'
              have F0' := fa_frozen HO6.out.own hgrow7 (show V < V + 1 by omega) hz6 HO6.out.f1
              have C0' := fa_cell HO6.out.own hgrow7 (show V < V + 1 by omega) hz6 c6
              refine hK.out _ _ trivial (fun hHeld => ?_)
              clear hK K
              refine wpAnyH_take (i := 7) (oi := ⟨some 48, _, _, _, _, none⟩) (v := .pointer (some ⟨V, 0, none⟩)) rfl (by kernel_rfl) (by kernel_rfl) (by kernel_rfl) (fun _ _ _ h => h) (Or.inl ⟨by rfl, fun w' hSw => by clear hSw; go_simp⟩) hHeld ?_
              simp only [Act.put, List.setIfInBounds_toArray, List.set_cons_zero, List.set_cons_succ]
              refine wpAnyH_ready (rs := [8]) (by kernel_rfl) (by simp) ?_
              refine AllReadyH.cons (o := ⟨none, _, _, _, _, none⟩) rfl (fun K hK => ?_) AllReadyH.nil
              go_simp
              refine hK.out _ _ trivial (fun hHeld => ?_)
              clear hK K
              refine wpAnyH_done (by kernel_rfl) ?_ _
              refine NoPanic.normal ?_
              clear hHeld
              have HO8 := hide (HO6.out.add hcw HOLD.out hgrow7 hown7)
              have d1 := HO8.out.c1
              have d0 := HO8.out.c0
              have df := HO8.out.f0
              have HD := hide (HO8.out.done hcw HOLD.out)
              generalize w7.setCell ⟨V, 0, none⟩ (.slice (some ⟨gg, 0, none⟩) (xs.length + 1) cp) = W8 at *
              clear F0' C0' hown7 hgrow7
              go_wp2_with fail
              exact bodyPost_ret (v := .agg #[.slice (some ⟨gg, 0, none⟩) (xs.length + 1) cp]) (by simp [results, Try.results49, go_sem, d0]) rfl ⟨_, xs ++ [r6], rfl, by simp; omega, HD.out.1, HD.out.2.1.le (by omega), HD.out.2.2⟩
            · go_simp
              refine (among_any HOA.out.cur (by omega) (by omega) (by omega) hbA hneA HZA.out).mono ?_
              rintro e w6 ⟨r6, rfl, hc6, hk6⟩
              have HO6 := hide (HOA.out.step hcw hk6 hc6)
              have c6 := HO6.out.c1
              have hz6 := HO6.out.size
              have ca6 : ∀ o : Obj, (w6.alloc o).cell? ⟨V, 0, none⟩ = some v := fun o => ((o_below_new w6 o).cell (p := ⟨V, 0, none⟩) (show V < w6.heap.size by omega)).trans c6
              clear hc6 hk6
              refine hK.out _ _ trivial (fun hHeld => ?_)
              clear hK K
              refine wpAnyH_ready (rs := [1, 5]) (by kernel_rfl) (by simp) ?_
              refine AllReadyH.cons (o := ⟨some 42, _, _, _, _, none⟩) rfl (fun K hK => ?_) (AllReadyH.cons (o := ⟨some 46, _, _, _, _, none⟩) rfl (fun K hK => ?_) AllReadyH.nil)
              · go_simp
                refine hK.out _ _ trivial (fun hHeld => ?_)
                clear hK K
                refine wpAnyH_ready (rs := [5]) (by kernel_rfl) (by simp) ?_
                refine AllReadyH.cons (o := ⟨some 46, _, _, _, _, none⟩) rfl (fun K hK => ?_) AllReadyH.nil
                go_simp
                refine hK.out _ _ trivial (fun hHeld => ?_)
                clear hK K
                refine wpAnyH_ready (rs := [6]) (by kernel_rfl) (by simp) ?_
                refine AllReadyH.cons (o := ⟨some 47, _, _, _, _, none⟩) rfl (fun K hK => ?_) AllReadyH.nil
                refine step_append_lies _ (by rfl) _ _ _ (by rfl) (V + 1) 3 i0 _ 1 8 Try.underlying26 hi hz0 hz1 hz2 rfl (by omega) v xs.length (ints xs) (by rfl) (HO6.out.own.alloc _) ⟨w6.heap.size, 0, none⟩ 1 1 (ints [r6]) (by rfl) (by rfl) (World.news_of_block (cs := #[.int .i64 r6]) (t := 3) (fr := (0, 0)) (heap_alloc_new w6 _)) (c_ints _) (by omega) (by unfold maxLen; omega) (by omega) (by simp; omega) (w6.heap.size + 1) (by simp) ?_
                intro gg cp w7 hown7 hgrow7 hat hlt'
                have F0' := fa_frozen HO6.out.own hgrow7 (show V < V + 1 by omega) hz6 HO6.out.f1
                have C0' := fa_cell HO6.out.own hgrow7 (show V < V + 1 by omega) hz6 c6
                refine hK.out _ _ trivial (fun hHeld => ?_)
                clear hK K
                refine wpAnyH_take (i := 7) (oi := ⟨some 48, _, _, _, _, none⟩) (v := .pointer (some ⟨V, 0, none⟩)) rfl (by kernel_rfl) (by kernel_rfl) (by kernel_rfl) (fun _ _ _ h => h) (Or.inl ⟨by rfl, fun w' hSw => by clear hSw; go_simp⟩) hHeld ?_
                simp only [Act.put, List.setIfInBounds_toArray, List.set_cons_zero, List.set_cons_succ]
                refine wpAnyH_ready (rs := [8]) (by kernel_rfl) (by simp) ?_
                refine AllReadyH.cons (o := ⟨none, _, _, _, _, none⟩) rfl (fun K hK => ?_) AllReadyH.nil
                go_simp
                refine hK.out _ _ trivial (fun hHeld => ?_)
                clear hK K
                refine wpAnyH_done (by kernel_rfl) ?_ _
                refine NoPanic.normal ?_
                clear hHeld
                have HO8 := hide (HO6.out.add hcw HOLD.out hgrow7 hown7)
                have d1 := HO8.out.c1
                have d0 := HO8.out.c0
                have df := HO8.out.f0
                have HD := hide (HO8.out.done hcw HOLD.out)
                generalize w7.setCell ⟨V, 0, none⟩ (.slice (some ⟨gg, 0, none⟩) (xs.length + 1) cp) = W8 at *
                clear F0' C0' hown7 hgrow7
                go_wp2_with fail
                exact bodyPost_ret (v := .agg #[.slice (some ⟨gg, 0, none⟩) (xs.length + 1) cp]) (by simp [results, Try.results49, go_sem, d0]) rfl ⟨_, xs ++ [r6], rfl, by simp; omega, HD.out.1, HD.out.2.1.le (by omega), HD.out.2.2⟩
              · go_simp
                refine hK.out _ _ trivial (fun hHeld => ?_)
                clear hK K
                refine wpAnyH_ready (rs := [1]) (by kernel_rfl) (by simp) ?_
                refine AllReadyH.cons (o := ⟨some 42, _, _, _, _, none⟩) rfl (fun K hK => ?_) AllReadyH.nil
                go_simp
                refine hK.out _ _ trivial (fun hHeld => ?_)
                clear hK K
                refine wpAnyH_ready (rs := [6]) (by kernel_rfl) (by simp) ?_
                refine AllReadyH.cons (o := ⟨some 47, _, _, _, _, none⟩) rfl (fun K hK => ?_) AllReadyH.nil
                refine step_append_lies _ (by rfl) _ _ _ (by rfl) (V + 1) 3 i0 _ 1 8 Try.underlying26 hi hz0 hz1 hz2 rfl (by omega) v xs.length (ints xs) (by rfl) (HO6.out.own.alloc _) ⟨w6.heap.size, 0, none⟩ 1 1 (ints [r6]) (by rfl) (by rfl) (World.news_of_block (cs := #[.int .i64 r6]) (t := 3) (fr := (0, 0)) (heap_alloc_new w6 _)) (c_ints _) (by omega) (by unfold maxLen; omega) (by omega) (by simp; omega) (w6.heap.size + 1) (by simp) ?_
                intro gg cp w7 hown7 hgrow7 hat hlt'
                have F0' := fa_frozen HO6.out.own hgrow7 (show V < V + 1 by omega) hz6 HO6.out.f1
                have C0' := fa_cell HO6.out.own hgrow7 (show V < V + 1 by omega) hz6 c6
                refine hK.out _ _ trivial (fun hHeld => ?_)
                clear hK K
                refine wpAnyH_take (i := 7) (oi := ⟨some 48, _, _, _, _, none⟩) (v := .pointer (some ⟨V, 0, none⟩)) rfl (by kernel_rfl) (by kernel_rfl) (by kernel_rfl) (fun _ _ _ h => h) (Or.inl ⟨by rfl, fun w' hSw => by clear hSw; go_simp⟩) hHeld ?_
                simp only [Act.put, List.setIfInBounds_toArray, List.set_cons_zero, List.set_cons_succ]
                refine wpAnyH_ready (rs := [8]) (by kernel_rfl) (by simp) ?_
                refine AllReadyH.cons (o := ⟨none, _, _, _, _, none⟩) rfl (fun K hK => ?_) AllReadyH.nil
                go_simp
                refine hK.out _ _ trivial (fun hHeld => ?_)
                clear hK K
                refine wpAnyH_done (by kernel_rfl) ?_ _
                refine NoPanic.normal ?_
                clear hHeld
                have HO8 := hide (HO6.out.add hcw HOLD.out hgrow7 hown7)
                have d1 := HO8.out.c1
                have d0 := HO8.out.c0
                have df := HO8.out.f0
                have HD := hide (HO8.out.done hcw HOLD.out)
                generalize w7.setCell ⟨V, 0, none⟩ (.slice (some ⟨gg, 0, none⟩) (xs.length + 1) cp) = W8 at *
                clear F0' C0' hown7 hgrow7
                go_wp2_with fail
                exact bodyPost_ret (v := .agg #[.slice (some ⟨gg, 0, none⟩) (xs.length + 1) cp]) (by simp [results, Try.results49, go_sem, d0]) rfl ⟨_, xs ++ [r6], rfl, by simp; omega, HD.out.1, HD.out.2.1.le (by omega), HD.out.2.2⟩
  · go_wp2_with fail
    refine (pick_any 20 (by omega) HC1.out (by omega)).mono ?_
    rintro e w2 ⟨r2, rfl, hr20, hr21, hc2, hk2⟩
    have HC2 := hide hc2
    have HK2 := hide (HK1.out.trans hk2)
    have q0 := (hk2.cell (b := w.heap.size) (o := 0) hz1' (by omega)).trans q0
    have q1 := (hk2.frozen (b := w.heap.size) (o := 0) hz1' (by omega)).trans q1
    have hz1' := Nat.lt_of_lt_of_le hz1' hk2.size
    clear hc2 hk2 HC1
    go_wp2_with fail
    refine (pick_any 20 (by omega) HC2.out (by omega)).mono ?_
    rintro e w3 ⟨r3, rfl, hr30, hr31, hc3, hk3⟩
    have HC3 := hide hc3
    have HK3 := hide (HK2.out.trans hk3)
    have q0 := (hk3.cell (b := w.heap.size) (o := 0) hz1' (by omega)).trans q0
    have q1 := (hk3.frozen (b := w.heap.size) (o := 0) hz1' (by omega)).trans q1
    have hz1' := Nat.lt_of_lt_of_le hz1' hk3.size
    clear hc3 hk3 HC2
    go_wp2_with fail
    refine (pick_any 4 (by omega) HC3.out (by omega)).mono ?_
    rintro e w4 ⟨r4, rfl, hr40, hr41, hc4, hk4⟩
    have HC4 := hide hc4
    have HK4 := hide (HK3.out.trans hk4)
    have q0 := (hk4.cell (b := w.heap.size) (o := 0) hz1' (by omega)).trans q0
    have q1 := (hk4.frozen (b := w.heap.size) (o := 0) hz1' (by omega)).trans q1
    have hz1' := Nat.lt_of_lt_of_le hz1' hk4.size
    clear hc4 hk4 HC3
    go_wp2_with fail
    refine (pick_any 4 (by omega) HC4.out (by omega)).mono ?_
    rintro e w5 ⟨r5, rfl, hr50, hr51, hc5, hk5⟩
    have HC5 := hide hc5
    have HK5 := hide (HK4.out.trans hk5)
    have q0 := (hk5.cell (b := w.heap.size) (o := 0) hz1' (by omega)).trans q0
    have q1 := (hk5.frozen (b := w.heap.size) (o := 0) hz1' (by omega)).trans q1
    have hz1' := Nat.lt_of_lt_of_le hz1' hk5.size
    clear hc5 hk5 HC4
    go_wp2_with fail
    refine sga_o.mono ?_
    rintro e w6 ⟨v, ok, xs, rfl, hxl, own6, hb6⟩
    obtain ⟨av, cv, rfl⟩ : ∃ av cv, v = .slice av xs.length cv := by
      rcases own6.2 with ⟨hv, hn⟩ | ⟨g, cp, cur, hv, _⟩
      · exact ⟨none, 0, by rw [hn]; exact hv⟩
      · exact ⟨_, _, hv⟩
    have hB6 := hb6.trans ((o_below_new w6 (.cells #[.slice av xs.length cv] 36)).mono hb6.size)
    have q0 := (hB6.cell (p := ⟨w.heap.size, 0, none⟩) hz1').trans q0
    have q1 := (hB6.frozen (p := ⟨w.heap.size, 0, none⟩) hz1').trans q1
    have HO6 := hide (o_own own6 (o_below_new w6 (.cells #[.slice av xs.length cv] 36)))
    have HC6 := hide (HC5.out.below hB6)
    have HK6 := hide (HK5.out.trans (Kp.of_below hB6))
    have hBF : Below w.heap.size (w6.alloc (.cells #[.slice av xs.length cv] 36)) ((w6.alloc (.cells #[.slice av xs.length cv] 36)).setCell ⟨w.heap.size, 0, none⟩ (.slice av xs.length cv)) := (Below.refl _ _).setCell (by show w.heap.size ≤ w.heap.size; omega) _
    have HOF := hide (owns_low (ownsRow_setCell_below (a := ⟨w.heap.size, 0, none⟩) HO6.out hz1' (.slice av xs.length cv)) (Nat.le_of_lt hz1'))
    have HCF := hide (HC6.out.low hBF hcw HOLD.out)
    have HKF := hide (kp_below HK6.out hBF (Nat.le_refl _))
    clear own6 hb6
    go_wp2_with fail
    exact bodyPost_ret (v := .agg #[.slice av xs.length cv]) (by simp [results, Try.results49, go_sem, q0]) rfl ⟨_, xs, rfl, hxl, HOF.out, HCF.out.le (by omega), HKF.out⟩
end Go.Proofs.Ytdlpbemjbmgbeaa
