/-
  What l8Take of the model answers: the search for a bin, written into the lists of owners and of bins tried.
-/
import Derived.Test.YtfmdahpldjkifaaJd
namespace Go.Proofs.Ytfmdahpldjkifaa
open Go.RowKit

/-- What a search leaves of the owners. -/
def resO (own : List Int) (r : Option (List (Nat × Nat)) × List Bool) : List Int :=
  match r.1 with
  | some w => Ma.oset own w
  | none => own
theorem resO_none (own : List Int) (t : List Bool) : resO own (none, t) = own := rfl
theorem resO_some (own : List Int) (w : List (Nat × Nat)) (t : List Bool) : resO own (some w, t) = Ma.oset own w := rfl
theorem resO_len (own : List Int) (r : Option (List (Nat × Nat)) × List Bool) : (resO own r).length = own.length := by
  unfold resO; split
  · exact Ma.oset_len _ _
  · rfl
/-- Owners and bins tried, each in a block of its own behind all that was there. -/
def TS (w0 w : World) (G C T M : Nat) (own : List Int) (t : List Bool) : Prop :=
  Below w0.heap.size w0 w ∧ w.ownsRow w0.heap.size 3 1 (.slice (some ⟨G, 0, none⟩) M C) M (ints own) ∧ w.ownsRow w0.heap.size 4 1 (.slice (some ⟨T, 0, none⟩) M M) M (bls t) ∧ G ≠ T ∧ own.length = M ∧ t.length = M
theorem TS.setT {w0 w : World} {G C T M : Nat} {own : List Int} {t : List Bool} (h : TS w0 w G C T M own t) (b : Nat) : TS w0 (w.setCell ⟨T, b, none⟩ (.bool true)) G C T M own (t.set b true) := by
  obtain ⟨h1, h2, h3, h4, h5, h6⟩ := h
  obtain ⟨st1, st2⟩ := h3.stored b (.bool true)
  rw [bls_set] at st1
  exact ⟨h1.setCell (h3.lt T rfl).1 _, h2.kept st2 (Or.inr (by simpa [Value.ownBlock] using h4)), st1, h4, h5, by simpa using h6⟩
theorem TS.setG {w0 w : World} {G C T M : Nat} {own : List Int} {t : List Bool} (h : TS w0 w G C T M own t) (b : Nat) (x : Int) : TS w0 (w.setCell ⟨G, b, none⟩ (.int .i64 x)) G C T M (own.set b x) t := by
  obtain ⟨h1, h2, h3, h4, h5, h6⟩ := h
  obtain ⟨st1, st2⟩ := h2.stored b (.int .i64 x)
  rw [ints_set] at st1
  exact ⟨h1.setCell (h2.lt G rfl).1 _, st1, h3.kept st2 (Or.inr (by simpa [Value.ownBlock] using Ne.symm h4)), h4, by simpa using h5, h6⟩
theorem TS.getT {w0 w : World} {G C T M : Nat} {own : List Int} {t : List Bool} (h : TS w0 w G C T M own t) {b : Nat} (hb : b < M) : w.cell? ⟨T, b, none⟩ = some (.bool (t.getD b false)) ∧ w.frozen? ⟨T, b, none⟩ = false := by
  obtain ⟨h1, h2, h3, h4, h5, h6⟩ := h
  exact ⟨by rw [h3.cellAt b (by omega), bls_get t b (by omega) false], h3.frozenAt b⟩
theorem TS.getG {w0 w : World} {G C T M : Nat} {own : List Int} {t : List Bool} (h : TS w0 w G C T M own t) {b : Nat} (hb : b < M) : w.cell? ⟨G, b, none⟩ = some (.int .i64 (own.getD b (-1))) ∧ w.frozen? ⟨G, b, none⟩ = false := by
  obtain ⟨h1, h2, h3, h4, h5, h6⟩ := h
  refine ⟨?_, h2.frozenAt b⟩
  rw [h2.cellAt b (by omega), ints_get own b (by omega)]
  simp [show b < own.length by omega]
/-- Owners are loads, or none. -/
def OwnB (n : Nat) (own : List Int) : Prop := ∀ b : Nat, own.getD b (-1) < 0 ∨ ∃ l : Nat, l < n ∧ own.getD b (-1) = (l : Int)
theorem scan_pass {F : List (List Bool)} {own : List Int} {rc : Nat → List Bool → Option (List (Nat × Nat)) × List Bool} {l b k : Nat} {t : List Bool} (h : (Ma.fit F l b && !t.getD b false) = false) : Ma.scan F own rc l b (k + 1) t = Ma.scan F own rc l (b + 1) k t := by
  rw [Ma.scan, if_neg (by rw [h]; simp)]
theorem scan_free {F : List (List Bool)} {own : List Int} {rc : Nat → List Bool → Option (List (Nat × Nat)) × List Bool} {l b k : Nat} {t : List Bool} (h : (Ma.fit F l b && !t.getD b false) = true) (ho : own.getD b (-1) < 0) : Ma.scan F own rc l b (k + 1) t = (some [(l, b)], t.set b true) := by
  rw [Ma.scan, if_pos h, if_pos ho]
theorem scan_down {F : List (List Bool)} {own : List Int} {rc : Nat → List Bool → Option (List (Nat × Nat)) × List Bool} {l b k q : Nat} {t : List Bool} (h : (Ma.fit F l b && !t.getD b false) = true) (ho : own.getD b (-1) = (q : Int)) {w : List (Nat × Nat)} {t' : List Bool} (hr : rc q (t.set b true) = (some w, t')) : Ma.scan F own rc l b (k + 1) t = (some ((l, b) :: w), t') := by
  rw [Ma.scan, if_pos h, if_neg (by omega), ho, Int.toNat_natCast, hr]
theorem scan_back {F : List (List Bool)} {own : List Int} {rc : Nat → List Bool → Option (List (Nat × Nat)) × List Bool} {l b k q : Nat} {t : List Bool} (h : (Ma.fit F l b && !t.getD b false) = true) (ho : own.getD b (-1) = (q : Int)) {t' : List Bool} (hr : rc q (t.set b true) = (none, t')) : Ma.scan F own rc l b (k + 1) t = Ma.scan F own rc l (b + 1) k t' := by
  rw [Ma.scan, if_pos h, if_neg (by omega), ho, Int.toNat_natCast, hr]
set_option maxRecDepth 20000 in
set_option maxHeartbeats 8000000 in
theorem take_any {a : Option Addr} {n c G C T M : Nat} {F : List (List Bool)} {w0 : World} (hn : F.length = n) (hG : Ma.goodB F = true) (ha : GRow w0 a F) (hM : Ma.bins F = M) :
    ∀ (f l : Nat) (own : List Int) (t : List Bool) (w : World), l < n → OwnB n own → Ma.left t < f → TS w0 w G C T M own t →
    Calls Try.prog 48 #[.slice a n c, .int .i64 l, .slice (some ⟨G, 0, none⟩) M C, .slice (some ⟨T, 0, none⟩) M M] w fun e w' => e = .returned (.bool (Ma.srch F own f l t).1.isSome) ∧ TS w0 w' G C T M (resO own (Ma.srch F own f l t)) (Ma.srch F own f l t).2
  | 0, l, own, t, w, _, _, h, _ => by omega
  | f + 1, l, own, t, w, hl, hO, hf, hT => by
    have IH := hide (take_any (c := c) (G := G) (C := C) (T := T) hn hG ha hM f)
    obtain ⟨ba, oa, ai, ci, rfl, hba, r0, R0⟩ := (ha.below hT.1).at (i := l) (by rw [hn]; exact hl)
    rw [Ma.goodB_row hG (by rw [hn]; exact hl), hM] at r0
    have hlr : (F.getD l []).length = M := by rw [Ma.goodB_row hG (by rw [hn]; exact hl), hM]
    obtain ⟨q0, o0, a1, c1, e1, hb1, _, R1⟩ := ha.at (i := l) (by rw [hn]; exact hl)
    have HA := hide ha
    have hM8 : M ≤ 8 := by rw [← hM]; exact Ma.goodB_bins hG
    have n8 : n ≤ 8 := by rw [← hn]; exact Ma.goodB_len hG
    have HR : Hid (∀ (W : World), Below w.heap.size w W → BRow W ai (F.getD l [])) := hide fun W hW => R0.below hW
    have HRB : Hid (∀ (W : World), Below w0.heap.size w0 W → ∃ ai' ci', W.cell? ⟨ba, oa + l, none⟩ = some (.slice ai' M ci') ∧ BRow W ai' (F.getD l [])) := hide fun W hW => by
      obtain ⟨b', o', a2, c2, e2, hb2, h2, R2⟩ := (ha.below hW).at (i := l) (by rw [hn]; exact hl)
      cases e2
      rw [hlr] at h2
      exact ⟨a2, c2, h2, R2⟩
    have HE : Hid (Ma.srch F own (f + 1) l t = Ma.scan F own (Ma.srch F own f) l 0 M t) := hide (by rw [← hM]; rfl)
    have HT := hide hT
    have HO := hide hO
    have HLR := hide hlr
    have HF := hide hf
    have hal : ∀ (W : World), Below w0.heap.size w0 W → ∀ j, j < M → ∃ br orr, ai = some ⟨br, orr, none⟩ ∧ W.cell? ⟨br, orr + j, none⟩ = some (.bool (Ma.fit F l j)) := fun W hW j hj => by
      obtain ⟨b', o', a2, c2, e2, hb2, h2, R2⟩ := ha.at (i := l) (by rw [hn]; exact hl)
      cases e2
      have h3 := (hT.1.cell (p := ⟨ba, oa + l, none⟩) hb2).trans h2
      rw [r0] at h3
      simp only [Option.some.injEq, Value.slice.injEq] at h3
      obtain ⟨e3, _, _⟩ := h3
      obtain ⟨br, orr, e4, _, h4⟩ := (R2.below hW).at (i := j) (by rw [hlr]; exact hj)
      exact ⟨br, orr, e3.trans e4, h4⟩
    have HAL := hide hal
    have i0 : (0 : Int) ≤ (l : Int) := by omega
    have i1 : (l : Int) < (n : Int) := by omega
    generalize Ma.srch F own (f + 1) l t = R at *
    clear hT hO R0 R1 e1 hb1 hal ha hlr hf HR HRB
    go_enter Try.func48, Try.ntmps48
    go_wp2_with fail
    go_loopw [8, 9, 10, 16] (fun s8 _ _ s wr => ∃ (b : Nat) (t' : List Bool), s8 = .bool false ∧ s = .int .i64 b ∧ b ≤ M ∧ Hid (TS w0 wr G C T M own t') ∧ Hid (R = Ma.scan F own (Ma.srch F own f) l b (M - b) t') ∧ Hid (Ma.left t' < f + 1)) (fun _ _ _ s _ => M - (intOf s).toNat)
    case atStart => exact ⟨0, t, rfl, rfl, Nat.zero_le _, HT, hide (by rw [HE.out]; rfl), HF⟩
    case round =>
      obtain ⟨b, t', rfl, rfl, hb, HT, HE, HL⟩ := hrel
      by_cases hlt : b < M
      · obtain ⟨br, orr, rfl, r2⟩ := HAL.out wr HT.out.1 b hlt
        obtain ⟨r3, f3⟩ := HT.out.getT hlt
        have HT1 := hide (HT.out.setT b)
        obtain ⟨r4, f4⟩ := HT1.out.getG hlt
        have j0 : (0 : Int) ≤ (b : Int) := by omega
        have j1 : (b : Int) < (M : Int) := by omega
        have hbt : b < t'.length := by rw [HT.out.2.2.2.2.2]; exact hlt
        obtain ⟨k, hk⟩ : ∃ k, M - b = k + 1 := ⟨M - b - 1, by omega⟩
        have hk' : M - (b + 1) = k := by omega
        have HE1 : Hid (R = Ma.scan F own (Ma.srch F own f) l b (k + 1) t') := hide (by rw [← hk]; exact HE.out)
        have HPass := hide fun (h : (Ma.fit F l b && !t'.getD b false) = false) => show R = Ma.scan F own (Ma.srch F own f) l (b + 1) (M - (b + 1)) t' by rw [HE1.out, scan_pass h, hk']
        have HFree := hide fun (h : (Ma.fit F l b && !t'.getD b false) = true) (ho : own.getD b (-1) < 0) => show R = (some [(l, b)], t'.set b true) by rw [HE1.out, scan_free h ho]
        have HDown := hide fun (h : (Ma.fit F l b && !t'.getD b false) = true) (q : Nat) (ho : own.getD b (-1) = (q : Int)) (w' : List (Nat × Nat)) (t2 : List Bool) (hr : Ma.srch F own f q (t'.set b true) = (some w', t2)) => show R = (some ((l, b) :: w'), t2) by rw [HE1.out, scan_down h ho hr]
        have HBack := hide fun (h : (Ma.fit F l b && !t'.getD b false) = true) (q : Nat) (ho : own.getD b (-1) = (q : Int)) (t2 : List Bool) (hr : Ma.srch F own f q (t'.set b true) = (none, t2)) => show R = Ma.scan F own (Ma.srch F own f) l (b + 1) (M - (b + 1)) t2 by rw [HE1.out, scan_back h ho hr, hk']
        have HLS := hide fun (h : t'.getD b false = false) => Ma.left_set hbt h
        have HOW := hide (HO.out b)
        clear hk hk' HE1 HE hbt
        generalize Ma.fit F l b = fq at *
        generalize hto : t'.getD b false = tb at *
        cases fq
        · have H1 := hide (HPass.out (by simp))
          clear hto
          go_wp2_with fail
          go_roundw
          case rel => exact ⟨b + 1, t', rfl, by go_num, by omega, HT, H1, HL⟩
          case measure => simp only [intOf]; omega
        · cases tb
          · have hls := HLS.out rfl
            generalize own.getD b (-1) = o at *
            rcases HOW.out with ho | ⟨q, hq, rfl⟩
            · have H1 := hide (HFree.out (by simp) ho)
              have HT2 := hide (HT1.out.setG b l)
              clear hto hls
              go_wp2_with fail
              go_ret
              refine ⟨ret_bool (by rw [H1.out]; rfl), ?_⟩
              rw [H1.out]
              exact HT2.out
            · have ho' : ¬ (q : Int) < 0 := by omega
              have HC := hide (IH.out q own (t'.set b true) _ hq HO.out (by have := HL.out; omega) HT1.out)
              have HRes := hide (Ma.srch_res F own f q (t'.set b true) (by rw [hM, List.length_set]; exact HT.out.2.2.2.2.2))
              clear hto
              go_wp2_with fail
              refine HC.out.mono ?_
              rintro e w2 ⟨rfl, hT2⟩
              generalize hr : Ma.srch F own f q (t'.set b true) = r at *
              obtain ⟨ro, rt⟩ := r
              cases ro with
              | some w' =>
                have H1 := hide (HDown.out (by simp) q rfl w' rt hr)
                obtain ⟨r5, f5⟩ := hT2.getG hlt
                have HT3 := hide (hT2.setG b l)
                clear hr hT2 hls
                go_wp2_with fail
                go_ret
                refine ⟨ret_bool (by rw [H1.out]; rfl), ?_⟩
                rw [H1.out]
                exact HT3.out
              | none =>
                have H1 := hide (HBack.out (by simp) q rfl rt hr)
                have HT3 := hide hT2
                have hlm : Ma.left rt ≤ Ma.left (t'.set b true) := Ma.left_mono HRes.out.len HRes.out.mono
                have HL3 : Hid (Ma.left rt < f + 1) := hide (by have := HL.out; omega)
                clear hr hT2 hls hlm
                go_wp2_with fail
                go_roundw
                case rel => exact ⟨b + 1, rt, rfl, by go_num, by omega, HT3, H1, HL3⟩
                case measure => simp only [intOf]; omega
          · have H1 := hide (HPass.out (by simp))
            clear hto
            go_wp2_with fail
            go_roundw
            case rel => exact ⟨b + 1, t', rfl, by go_num, by omega, HT, H1, HL⟩
            case measure => simp only [intOf]; omega
      · have hbe : b = M := by omega
        subst hbe
        have H1 : Hid (R = (none, t')) := hide (by rw [HE.out, Nat.sub_self]; rfl)
        go_wp2_with fail
        go_ret
        refine ⟨ret_bool (by rw [H1.out]; rfl), ?_⟩
        rw [H1.out]
        exact HT.out
end Go.Proofs.Ytfmdahpldjkifaa
