/-
  What nextMove of the program and l10Next of the model answer.
-/
import Derived.Test.YtdigcbjkobjdmaaMl10
import Derived.Laws.EntriesVeiled
namespace Go.Proofs.Ytdigcbjkobjdmaa
open Go.RowKit

theorem ix10_0 (W : World) : (Instr.index 67 (Value.agg #[Value.func (Fn.func 55) #[] #[], Value.func (Fn.func 56) #[] #[]]) (Value.int IntKind.i64 0)).run Try.prog W = .ok (Value.func (Fn.func 55) #[] #[]) W := rfl
theorem ix10_1 (W : World) : (Instr.index 67 (Value.agg #[Value.func (Fn.func 55) #[] #[], Value.func (Fn.func 56) #[] #[]]) (Value.int IntKind.i64 1)).run Try.prog W = .ok (Value.func (Fn.func 56) #[] #[]) W := rfl
set_option maxRecDepth 20000 in
set_option maxHeartbeats 4000000 in
theorem nm_any {a b : Option Addr} {n c d : Nat} {xs ws : List Int} {w : World} (hx : xs.length = n) (hy : ws.length = n) (hn : n ≤ 1000) (ha : ARow w a xs) (hbw : ARow w b ws) :
    Calls Try.prog 46 #[.agg #[.slice a n c, .slice b n d]] w (NmP w (Mx.nextM xs ws)) := by
  have bW1 := below_new w (.cells #[.slice a n c, .slice b n d] 56)
  have bW2 := below_new (w.alloc (.cells #[.slice a n c, .slice b n d] 56)) (.cells #[.int .i64 0, .int .i64 0] 30)
  have hb := bW1.trans (bW2.mono bW1.size)
  have c0 : ((w.alloc (.cells #[.slice a n c, .slice b n d] 56)).alloc (.cells #[.int .i64 0, .int .i64 0] 30)).cell? ⟨w.heap.size, 0, none⟩ = some (.slice a n c) := by simp
  have c1 : ((w.alloc (.cells #[.slice a n c, .slice b n d] 56)).alloc (.cells #[.int .i64 0, .int .i64 0] 30)).cell? ⟨w.heap.size, 1, none⟩ = some (.slice b n d) := by simp
  have r0 : ((w.alloc (.cells #[.slice a n c, .slice b n d] 56)).alloc (.cells #[.int .i64 0, .int .i64 0] 30)).cell? ⟨w.heap.size + 1, 0, none⟩ = some (.int .i64 0) := by simp
  have r1 : ((w.alloc (.cells #[.slice a n c, .slice b n d] 56)).alloc (.cells #[.int .i64 0, .int .i64 0] 30)).cell? ⟨w.heap.size + 1, 1, none⟩ = some (.int .i64 0) := by simp
  have r2 : ((w.alloc (.cells #[.slice a n c, .slice b n d] 56)).alloc (.cells #[.int .i64 0, .int .i64 0] 30)).frozen? ⟨w.heap.size + 1, 0, none⟩ = false := by simp [go_sem]
  have r3 : ((w.alloc (.cells #[.slice a n c, .slice b n d] 56)).alloc (.cells #[.int .i64 0, .int .i64 0] 30)).frozen? ⟨w.heap.size + 1, 1, none⟩ = false := by simp [go_sem]
  have hz : ((w.alloc (.cells #[.slice a n c, .slice b n d] 56)).alloc (.cells #[.int .i64 0, .int .i64 0] 30)).heap.size = w.heap.size + 2 := by simp
  obtain ⟨W2, hW2⟩ : ∃ W, W = (w.alloc (.cells #[.slice a n c, .slice b n d] 56)).alloc (.cells #[.int .i64 0, .int .i64 0] 30) := ⟨_, rfl⟩
  rw [← hW2] at hb c0 c1 r0 r1 r2 r3 hz
  have HA := hide (ha.below hb)
  have HBB := hide (hbw.below hb)
  have HB := hide hb
  have HW2 := hide hW2.symm
  obtain ⟨B, hB⟩ : ∃ B, B = w.heap.size := ⟨_, rfl⟩
  rw [← hB] at c0 c1 r0 r1 r2 r3 hz
  have HBe := hide hB.symm
  have HBS := hide fun (W : World) (h : Below w.heap.size w W) (x y : Value) => ((h.setCell (p := ⟨B + 1, 0, none⟩) (by show w.heap.size ≤ B + 1; omega) x).setCell (p := ⟨B + 1, 1, none⟩) (by show w.heap.size ≤ B + 1; omega) y)
  have HMH := hide fun (W : World) (h : Below W2.heap.size W2 W) => mh_any (w := W) (c := c) (d := d) hx hy hn (HA.out.below h) (HBB.out.below h)
  have HMA := hide fun (W : World) (h : Below W2.heap.size W2 W) => ma_any (w := W) (c := c) (d := d) hx hy hn (HA.out.below h) (HBB.out.below h)
  have HNH := hide fun (m : Int × Int) (h : homeM xs ws = some m) => next_h h
  have HNA := hide fun (h : homeM xs ws = none) => next_a h
  have HFAC : Hid (∀ W, Below W2.heap.size W2 W → W.cell? ⟨B, 0, none⟩ = some (.slice a n c) ∧ W.cell? ⟨B, 1, none⟩ = some (.slice b n d) ∧ W.cell? ⟨B + 1, 0, none⟩ = some (.int .i64 0) ∧ W.cell? ⟨B + 1, 1, none⟩ = some (.int .i64 0) ∧ W.frozen? ⟨B + 1, 0, none⟩ = false ∧ W.frozen? ⟨B + 1, 1, none⟩ = false ∧ Below w.heap.size w W) := hide fun W h =>
    ⟨(h.cell (p := ⟨B, 0, none⟩) (by show B < _; omega)).trans c0, (h.cell (p := ⟨B, 1, none⟩) (by show B < _; omega)).trans c1, (h.cell (p := ⟨B + 1, 0, none⟩) (by show B + 1 < _; omega)).trans r0, (h.cell (p := ⟨B + 1, 1, none⟩) (by show B + 1 < _; omega)).trans r1, (h.frozen (p := ⟨B + 1, 0, none⟩) (by show B + 1 < _; omega)).trans r2, (h.frozen (p := ⟨B + 1, 1, none⟩) (by show B + 1 < _; omega)).trans r3, HB.out.trans (h.mono HB.out.size)⟩
  generalize homeM xs ws = OH at *
  generalize asideM xs ws = OA at *
  generalize Mx.nextM xs ws = ON at *
  have bA := hide (below_new W2 (.cells #[.func (.func 55) #[] #[], .func (.func 56) #[] #[]] 67))
  clear bW1 bW2 hb hW2 hB ha hbw hx hy c0 c1 r0 r1 r2 r3 HA HBB hz
  go_enter Try.func46, Try.ntmps46
  go_upto_region 1 with fail
  rw [HW2.out, HBe.out]
  clear HW2 HBe
  go_wp2_with fail
  go_loopw [3, 6, 7, 8, 11] (fun s3 _ _ _ s wr => ∃ k : Nat, s3 = .bool false ∧ s = .int .i64 k ∧ k ≤ 2 ∧ Hid (Below W2.heap.size W2 wr) ∧ Hid (1 ≤ k → OH = none) ∧ Hid (2 ≤ k → OA = none)) (fun _ _ _ _ s _ => 2 - (intOf s).toNat)
  case atStart => exact ⟨0, rfl, rfl, by omega, hide (below_new _ _), hide fun h => absurd h (by omega), hide fun h => absurd h (by omega)⟩
  case round =>
    obtain ⟨k, rfl, rfl, hk, HBr, HK1, HK2⟩ := hrel
    obtain ⟨x0, x1, x2, x3, x4, x5, _⟩ := HFAC.out _ HBr.out
    have j0 := ix10_0
    have j1 := ix10_1
    by_cases h0 : k = 0
    · subst h0
      have HC := hide (HMH.out _ HBr.out)
      go_wp2_with fail
      refine HC.out.mono ?_
      rintro e w4 ⟨F, T, s, rfl, ho, hb4⟩
      have HOo := hide ho
      have HB4 := hide (HBr.out.trans (hb4.mono HBr.out.size))
      clear ho hb4
      have bV := below_new w4 (.cells #[.int .i64 F, .int .i64 T] 30)
      have HB5 := hide (HB4.out.trans (bV.mono HB4.out.size))
      obtain ⟨x0, x1, x2, x3, x4, x5, _⟩ := HFAC.out _ HB5.out
      have v0 : (w4.alloc (.cells #[.int .i64 F, .int .i64 T] 30)).cell? ⟨w4.heap.size, 0, none⟩ = some (.int .i64 F) := (by simp)
      have v1 : (w4.alloc (.cells #[.int .i64 F, .int .i64 T] 30)).cell? ⟨w4.heap.size, 1, none⟩ = some (.int .i64 T) := (by simp)
      clear bV HC
      cases s
      · have HN : Hid (OH = none) := HOo
        go_wp2_with fail
        go_roundw
        case rel => exact ⟨0 + 1, rfl, by go_num, by omega, HB5, hide fun _ => HN.out, hide fun h => absurd h (by omega)⟩
        case measure => simp only [intOf]; omega
      · have HN : Hid (OH = some (F, T)) := HOo
        have HFIN := hide (HBS.out _ (HFAC.out _ HB5.out).2.2.2.2.2.2 (.int .i64 F) (.int .i64 T))
        go_wp2_with fail
        exact bodyPost_ret (v := .tuple #[.agg #[.int .i64 F, .int .i64 T], .bool true]) (by simp [results, Try.results46, go_sem, *]) rfl ⟨F, T, true, rfl, HNH.out _ HN.out, HFIN.out⟩
    · by_cases h1 : k = 1
      · subst h1
        have HOH := HK1.out (by omega)
        have HK1x : Hid (1 ≤ 1 + 1 → OH = none) := hide fun _ => HOH
        have HOHh := hide HOH
        clear HOH
        have HC := hide (HMA.out _ HBr.out)
        go_wp2_with fail
        refine HC.out.mono ?_
        rintro e w4 ⟨F, T, s, rfl, ho, hb4⟩
        have HOo := hide ho
        have HB4 := hide (HBr.out.trans (hb4.mono HBr.out.size))
        clear ho hb4
        have bV := below_new w4 (.cells #[.int .i64 F, .int .i64 T] 30)
        have HB5 := hide (HB4.out.trans (bV.mono HB4.out.size))
        obtain ⟨x0, x1, x2, x3, x4, x5, _⟩ := HFAC.out _ HB5.out
        have v0 : (w4.alloc (.cells #[.int .i64 F, .int .i64 T] 30)).cell? ⟨w4.heap.size, 0, none⟩ = some (.int .i64 F) := (by simp)
        have v1 : (w4.alloc (.cells #[.int .i64 F, .int .i64 T] 30)).cell? ⟨w4.heap.size, 1, none⟩ = some (.int .i64 T) := (by simp)
        clear bV HC
        cases s
        · have HN : Hid (OA = none) := HOo
          go_wp2_with fail
          go_roundw
          case rel => exact ⟨1 + 1, rfl, by go_num, by omega, HB5, HK1x, hide fun _ => HN.out⟩
          case measure => simp only [intOf]; omega
        · have HN : Hid (OA = some (F, T)) := HOo
          have HFIN := hide (HBS.out _ (HFAC.out _ HB5.out).2.2.2.2.2.2 (.int .i64 F) (.int .i64 T))
          go_wp2_with fail
          exact bodyPost_ret (v := .tuple #[.agg #[.int .i64 F, .int .i64 T], .bool true]) (by simp [results, Try.results46, go_sem, *]) rfl ⟨F, T, true, rfl, (HNA.out HOHh.out).trans HN.out, HFIN.out⟩
      · obtain rfl : k = 2 := by omega
        have HN := hide ((HNA.out (HK1.out (by omega))).trans (HK2.out (by omega)))
        have HFIN := hide (HBS.out _ (HFAC.out _ HBr.out).2.2.2.2.2.2 (.int .i64 0) (.int .i64 0))
        go_wp2_with fail
        exact bodyPost_ret (v := .tuple #[.agg #[.int .i64 0, .int .i64 0], .bool false]) (by simp [results, Try.results46, go_sem, *]) rfl ⟨0, 0, false, rfl, HN.out, HFIN.out⟩
end Go.Proofs.Ytdigcbjkobjdmaa
