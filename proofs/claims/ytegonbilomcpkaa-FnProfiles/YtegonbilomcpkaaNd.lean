/-
  What ProfileOf of the program answers where the goods and the lines are good: the walk.
-/
import Derived.Test.YtegonbilomcpkaaNc
import Derived.Test.YtegonbilomcpkaaMs
import Derived.Deep.RegionHeld3
namespace Go.Proofs.Ytegonbilomcpkaa
open Go.RowKit Go.Maps Go.Sort

theorem RV.keep {w w1 w2 : World} (h : RV w w1) (hs : w1.heap.size ≤ w2.heap.size) (hB : Below w.heap.size w w2) (hb : w2.heap[w.heap.size]? = w1.heap[w.heap.size]?) : RV w w2 := by
  obtain ⟨c0, c1, f0, f1, _, hl⟩ := h
  have hc : ∀ o, w2.cell? ⟨w.heap.size, o, none⟩ = w1.cell? ⟨w.heap.size, o, none⟩ := fun o => World.cell?_of_block (w := w1) (a := ⟨w.heap.size, o, none⟩) hb
  have hf : ∀ o, w2.frozen? ⟨w.heap.size, o, none⟩ = w1.frozen? ⟨w.heap.size, o, none⟩ := fun o => World.frozen?_of_block (w := w1) (a := ⟨w.heap.size, o, none⟩) hb
  exact ⟨(hc 0).trans c0, (hc 1).trans c1, (hf 0).trans f0, (hf 1).trans f1, hB, Nat.lt_of_lt_of_le hl hs⟩
/-- What stays while a line is added. -/
theorem kL_call {w w1 w2 : World} {B b o M : Nat} {v0 v1 v2 : Value} (hB : B ≠ M) (hb : b ≠ M) (lB : B < w1.heap.size) (lb : b < w1.heap.size)
    (s : w1.cell? ⟨B, 0, none⟩ = some v0 ∧ w1.cell? ⟨B, 1, none⟩ = some v1 ∧ w1.cell? ⟨b, o, none⟩ = some v2 ∧ w.grownBy w1 (some M)) (h : w1.grownBy w2 (some M)) :
    w2.cell? ⟨B, 0, none⟩ = some v0 ∧ w2.cell? ⟨B, 1, none⟩ = some v1 ∧ w2.cell? ⟨b, o, none⟩ = some v2 ∧ w.grownBy w2 (some M) := by
  obtain ⟨s0, s1, s2, s4⟩ := s
  have hc : ∀ x o, x < w1.heap.size → x ≠ M → w2.cell? ⟨x, o, none⟩ = w1.cell? ⟨x, o, none⟩ := fun x o hx hne => h.cell_far ⟨x, o, none⟩ hx (by simp; omega)
  exact ⟨(hc _ _ lB hB).trans s0, (hc _ _ lB hB).trans s1, (hc _ _ lb hb).trans s2, grown_transM s4 h⟩
theorem add_line {w : World} {M n k : Nat} {f f' : Dem} {i : Nat} {z : Int} (h : Hid (MO w M n k f)) (hi : i < n) (hn : n ≤ 12) (hk : k ≤ 80) (hbd : Hid (0 ≤ (f.get i).1 ∧ (f.get i).1 ≤ k ∧ 0 ≤ (f.get i).2 ∧ (f.get i).2 ≤ 10000 * (k : Int))) (z0 : 0 ≤ z) (z1 : z ≤ 10000)
    (hf : Hid (f.set i ((f.get i).1 + 1, (f.get i).2 + z) = f')) :
    Calls Try.prog 35 #[.map (some M), .int .i64 (i : Int), .int .i64 1, .int .i64 z] w fun e w' => e = .returned (.tuple #[]) ∧ Hid (MO w' M n (k + 1) f') ∧ w.grownBy w' (some M) := by
  obtain ⟨b0, b1, b2, b3⟩ := hbd.out
  exact hf.out ▸ add_any (p := 1) (q := z) h.out hi (by omega) (by omega) b0 (by omega) b2 (by omega) (by decide) (by decide) z0 (by omega)

set_option maxRecDepth 20000 in
set_option maxHeartbeats 8000000 in
theorem po_good {a a' : Option Addr} {n c n' c' : Nat} {gs : List Gd} {ls : List (Int × Int)} {w : World} (hn : gs.length = n) (hc : n ≤ c) (hs : Short gs) (h : GRow w a gs) (hg : goodsB gs = true)
    (hn' : ls.length = n') (h' : LRow w a' ls) (hl : linesB n ls = true) :
    Calls Try.prog 6 #[.slice a n c, .slice a' n' c'] w fun e w' => Below w.heap.size w w' ∧ ∃ x y, e = .returned (.tuple #[.agg #[.slice (some ⟨x, 0, none⟩) n n, .slice (some ⟨y, 0, none⟩) n n], .bool true]) ∧ x ≠ y ∧ w'.ownsRow w.heap.size 3 1 (.slice (some ⟨x, 0, none⟩) n n) n (ints ((lineF gs ls n').asked.picks n)) ∧ w'.ownsRow w.heap.size 3 1 (.slice (some ⟨y, 0, none⟩) n n) n (ints ((lineF gs ls n').asked.flow n)) := by
  have h12 : n ≤ 12 := hn ▸ goodsB_len hg
  have h80 : n' ≤ 80 := hn' ▸ linesB_len hl
  have H := hide h
  have HG := hide hg
  have HN := hide hn
  have HS := hide hs
  have H' := hide h'
  have HN' := hide hn'
  have HL := hide hl
  have hmk := mkmapN
  clear h hg hn hs h' hn' hl
  go_enter Try.func6, Try.ntmps6
  go_wp2_with (first
    | (go_at_call 9; refine (gg_h HN hc HS H HG ((Below.refl _ _).alloc (Nat.le_refl _) _)).mono ?_; rintro e w1 ⟨rfl, hb1⟩; obtain ⟨p4, p5, f0, f1, hB1, z1⟩ := (RV.new w _).below hb1)
    | (go_at_call 34; refine (al_h HN' h12 H' HL hB1).mono ?_; rintro e w2 ⟨rfl, hb2⟩; have hRV := RV.below ⟨p4, p5, f0, f1, hB1, z1⟩ hb2))
  have HRV := hide (hRV.below ((Below.refl _ _).alloc (Nat.le_refl _) (.map #[] 0)))
  have hB3 := HRV.out.2.2.2.2.1
  have z3 : w.heap.size < w2.heap.size := hRV.2.2.2.2.2
  have HMO := hide (MO.made w2 n)
  have sz0 : (w2.alloc (.map #[] 0)).heap.size = w2.heap.size + 1 := by simp
  clear p4 p5 f0 f1 hb1 hB1 z1 hb2 hmk hRV
  generalize hM : w2.heap.size = M at *
  generalize w2.alloc (.map #[] 0) = W0 at *
  go_loopw [8, 23] (fun _ s wr => ∃ k : Nat, s = .int .i64 k ∧ k ≤ n' ∧ Hid (MO wr M n k (lineF gs ls k)) ∧ W0.grownBy wr (some M)) (fun _ s _ => n' - (intOf s).toNat)
  case atStart => exact ⟨0, rfl, Nat.zero_le _, HMO, World.grownBy.refl _ _⟩
  case round =>
    obtain ⟨k, rfl, hk, HMk, hgr⟩ := hrel
    have szr := hgr.size
    have hBr : Below w.heap.size w wr := hB3.trans ⟨hgr.os, hgr.tape, hgr.output, hgr.size, fun b hb => hgr.block b (by omega) (by simp; omega)⟩
    by_cases hlt : k < n'
    · obtain ⟨b, off, rfl, hb, r1, r2⟩ := H'.out.at (i := k) (by rw [HN'.out]; exact hlt)
      have bd := line_bd HG.out HN.out HL.out (k := k) (by rw [HN'.out]; exact hlt)
      have HST : Hid ((lineF gs ls k).set (ls.getD k (0, 0)).1.toNat (((lineF gs ls k).get (ls.getD k (0, 0)).1.toNat).1 + 1, ((lineF gs ls k).get (ls.getD k (0, 0)).1.toNat).2 + (gs.getD (ls.getD k (0, 0)).1.toNat gd0).2 * (ls.getD k (0, 0)).2) = lineF gs ls (k + 1)) := hide rfl
      have HBD := hide (lineF_bd HG.out HN.out HL.out k (by rw [HN'.out]; omega))
      generalize hgx : ls.getD k (0, 0) = x at *
      obtain ⟨x1, x2⟩ := x
      clear hgx
      dsimp only at r1 r2 bd HST
      obtain ⟨x10, x11, x20, x21, m0, m1⟩ := bd
      obtain ⟨i, rfl⟩ := Int.eq_ofNat_of_zero_le x10
      simp only [Int.toNat_natCast] at m0 m1 HST
      obtain ⟨b', off', rfl, hb', s1, s2⟩ := H.out.at (i := i) (by rw [HN.out]; omega)
      generalize (gs.getD i gd0).2 = z at *
      have wm : IntKind.i64.wrap (z * x2) = z * x2 := by rw [IntKind.wrap_i64]; omega
      have old : ∀ B o, B < w.heap.size → wr.cell? ⟨B, o, none⟩ = w.cell? ⟨B, o, none⟩ := fun B o h => hBr.cell (p := ⟨B, o, none⟩) h
      have y1 := (old b _ hb).trans r1
      have y2 := (old b _ hb).trans r2
      have y3 := (old b' _ hb').trans s2
      clear r1 r2 s1 s2 old
      have k0 : (0 : Int) ≤ (k : Int) := by omega
      have k1 : (k : Int) < (n' : Int) := by omega
      have hi : i < n := by omega
      have bl := (Below.refl wr.heap.size wr).alloc (Nat.le_refl _) (.cells #[.int .i64 (i : Int), .int .i64 x2] 35)
      have hMl := HMk.out.lt
      have HMl : Hid (MO (wr.alloc (.cells #[.int .i64 (i : Int), .int .i64 x2] 35)).drew M n k (lineF gs ls k)) := hide ((HMk.out.below bl).keep rfl)
      have e0 : (wr.alloc (.cells #[.int .i64 (i : Int), .int .i64 x2] 35)).drew.cell? ⟨wr.heap.size, 0, none⟩ = some (.int .i64 (i : Int)) := by show (wr.alloc _).cell? _ = _; simp [go_sem]
      have e1 : (wr.alloc (.cells #[.int .i64 (i : Int), .int .i64 x2] 35)).drew.cell? ⟨wr.heap.size, 1, none⟩ = some (.int .i64 x2) := by show (wr.alloc _).cell? _ = _; simp [go_sem]
      have e2 : (wr.alloc (.cells #[.int .i64 (i : Int), .int .i64 x2] 35)).drew.cell? ⟨b', off' + i * 2 + 1, none⟩ = some (.int .i64 z) := (bl.cell (p := ⟨b', off' + i * 2 + 1, none⟩) (by show b' < _; omega)).trans y3
      have hgl : W0.grownBy (wr.alloc (.cells #[.int .i64 (i : Int), .int .i64 x2] 35)).drew (some M) := ⟨bl.os.trans hgr.os, bl.tape.trans hgr.tape, bl.output.trans hgr.output, Nat.le_trans hgr.size bl.size, fun q hq hne => (bl.block q (by omega)).trans (hgr.block q hq hne)⟩
      have i0 : (0 : Int) ≤ (i : Int) := by omega
      have i1 : (i : Int) < (n : Int) := by omega
      have HBi := hide (HBD.out i)
      clear HMk HBD bl y3
      go_wp2_with fail
      go_region_held3 (fun w' => w'.cell? ⟨wr.heap.size, 0, none⟩ = some (.int .i64 (i : Int)) ∧ w'.cell? ⟨wr.heap.size, 1, none⟩ = some (.int .i64 x2) ∧ w'.cell? ⟨b', off' + i * 2 + 1, none⟩ = some (.int .i64 z) ∧ W0.grownBy w' (some M))
        (first | exact ⟨e0, e1, e2, hgl⟩ | assumption | exact kL_call (by omega) (by omega) (by show wr.heap.size < (wr.alloc _).heap.size; simp) (by show b' < (wr.alloc _).heap.size; simp; omega) ⟨e0, e1, e2, hgl⟩ hga | fail)
        (first
        | (go_at_call 35; refine (add_line HMl hi h12 (by omega) HBi m0 m1 HST).mono ?_; rintro e wa ⟨rfl, HMa, hga⟩)
        | fail)
      obtain ⟨_, _, _, hgA⟩ := ‹_ ∧ _ ∧ _ ∧ _›
      clear e0 e1 e2 hgl hga HMl
      go_wp2_with fail
      go_roundw
      case rel => exact ⟨k + 1, by go_num, by omega, HMa, hgA⟩
      case measure => simp only [intOf]; omega
    · have hke : k = n' := by omega
      subst hke
      have HPR := hide (profile_any HMk.out (by omega) (by omega))
      obtain ⟨c0, c1, f0, f1, _, _⟩ := HRV.out
      have HRr := hide (RV.keep HRV.out hgr.size hBr (hgr.block _ (by omega) (by simp; omega)))
      clear c0 c1 f0 f1
      go_wp2_with (go_at_call 36; refine HPR.out.mono ?_; rintro e w5 ⟨x, y, rfl, hxy, hg5, ox, oy⟩; have sz5 := hg5.size; have hB5 : Below w.heap.size w w5 := hBr.trans ⟨hg5.os, hg5.tape, hg5.output, hg5.size, fun b hb => hg5.block b (by omega) (by simp; omega)⟩; obtain ⟨c0, c1, f0, f1, _, _⟩ := RV.keep HRr.out hg5.size hB5 (hg5.block _ (by omega) (by simp; omega)))
      have bx := owns_low ox hBr.size
      have by' := owns_low oy hBr.size
      have lx := ox.lt x rfl
      have ly := oy.lt y rfl
      refine bodyPost_ret (v := .tuple #[.agg #[.slice (some ⟨x, 0, none⟩) n n, .slice (some ⟨y, 0, none⟩) n n], .bool true]) (by simp [results, Try.results6, go_sem, c0, c1]) rfl ⟨(hB5.setCell (Nat.le_refl _) _).setCell (Nat.le_refl _) _, x, y, rfl, hxy, ?_, ?_⟩
      · exact own_two (B := w.heap.size) bx (by omega) _ _
      · exact own_two (B := w.heap.size) by' (by omega) _ _
end Go.Proofs.Ytegonbilomcpkaa
