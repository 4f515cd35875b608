/-
  In one: Se15, Hr17, Si, Ht17, Hi17, Hj17, Hv17, Hw17, Hz17, Ia17, Hn17, Hy17, Ib17, Hx17, Ic17.
-/
import Derived.Test.YtlbagigghpiifabGreatW4
import Derived.Test.YtlbagigghpiifabGreatW3
import Derived.Test.YtlbagigghpiifabGreatW1
import Derived.Deep.RegionHeld3
import Derived.Test.YtlbagigghpiifabGreatW2
import Derived.Deep.AppendLies
namespace Go.Proofs.YtlbagigghpiifabGreat
open Go.RowKit

/-- What both SheetProfiles answer. -/
def SpAns (f n n' r : Nat) (ok : Bool) (gs : List Gd) (ls : List (Int × Int)) (R1 R2 : List Int) : Prop :=
  ∀ (W : World) (X Y : Nat), Short gs → TS W X Y n n' gs ls →
    Calls Tryz.prog f #[.agg #[.slice (some ⟨X, 0, none⟩) n n, .slice (some ⟨Y, 0, none⟩) n' n']] W fun e w' => ∃ v1 v2, e = .returned (.tuple #[.agg #[v1, v2], .bool ok]) ∧ Below W.heap.size W w' ∧ w'.ownsRow W.heap.size 3 1 v1 r (ints R1) ∧ w'.ownsRow W.heap.size 3 1 v2 r (ints R2) ∧ ∀ g, v1.ownBlock = some g → v2.ownBlock ≠ some g
theorem own_two15 {w : World} {base B n : Nat} {v u0 u1 : Value} {xs : List Value} (h : w.ownsRow base 3 1 v n xs) (hB : B < base) : ((w.setCell ⟨B, 0, none⟩ u0).setCell ⟨B, 1, none⟩ u1).ownsRow base 3 1 v n xs :=
  ownsRow_setCell_below (ownsRow_setCell_below h (a := ⟨B, 0, none⟩) hB u0) (a := ⟨B, 1, none⟩) hB u1
set_option maxHeartbeats 2000000 in
theorem isp_any {n n' r : Nat} {ok : Bool} {gs : List Gd} {ls : List (Int × Int)} {R1 R2 : List Int} (Hi : Hid (PoAns 52 n n' r ok gs ls R1 R2)) : SpAns 28 n n' r ok gs ls R1 R2 := by
  intro W X Y hs t
  have HT := hide t
  have HSh := hide hs
  have b1 := below_new W (.cells #[.slice (some ⟨X, 0, none⟩) n n, .slice (some ⟨Y, 0, none⟩) n' n'] 38)
  have b2 := below_new (W.alloc (.cells #[.slice (some ⟨X, 0, none⟩) n n, .slice (some ⟨Y, 0, none⟩) n' n'] 38)) (.cells #[.slice none 0 0, .slice none 0 0] 61)
  have HB := hide (b1.trans (b2.mono b1.size))
  have PR := hide (PBox.new (W.alloc (.cells #[.slice (some ⟨X, 0, none⟩) n n, .slice (some ⟨Y, 0, none⟩) n' n'] 38)) (.slice none 0 0) (.slice none 0 0) 61)
  rw [World.size_alloc] at PR
  have FR : Hid (∀ i, ((W.alloc (.cells #[.slice (some ⟨X, 0, none⟩) n n, .slice (some ⟨Y, 0, none⟩) n' n'] 38)).alloc (.cells #[.slice none 0 0, .slice none 0 0] 61)).frozen? ⟨W.heap.size + 1, i, none⟩ = false) := hide fun i => by simp [go_sem]
  clear t hs b1 b2
  go_enter Tryz.func28, Tryz.ntmps28
  go_wp2_with fail
  refine (Hi.out _ _ _ HSh.out (HT.out.below HB.out).g (HT.out.below HB.out).l).mono ?_
  rintro e w1 ⟨vv1, vv2, rfl, hb1, o1, o2, hne⟩
  obtain ⟨a1, c1, rfl⟩ := own_sh o1
  obtain ⟨a2, c2, rfl⟩ := own_sh o2
  have e0 : ((W.alloc (.cells #[.slice (some ⟨X, 0, none⟩) n n, .slice (some ⟨Y, 0, none⟩) n' n'] 38)).alloc (.cells #[.slice none 0 0, .slice none 0 0] 61)).heap.size = W.heap.size + 1 + 1 := by simp
  rw [e0] at o1 o2
  obtain ⟨p0, p1, pl⟩ := PR.out.below hb1
  have f0 := (hb1.frozen (p := ⟨W.heap.size + 1, 0, none⟩) (by show W.heap.size + 1 < _; rw [e0]; omega)).trans (FR.out 0)
  have f1 := (hb1.frozen (p := ⟨W.heap.size + 1, 1, none⟩) (by show W.heap.size + 1 < _; rw [e0]; omega)).trans (FR.out 1)
  have HB1 := hide (HB.out.trans (hb1.mono HB.out.size))
  have O1 := hide (owns_low (own_two15 (B := W.heap.size + 1) (u0 := .slice a1 r c1) (u1 := .slice a2 r c2) o1 (by omega)) (base' := W.heap.size) (by omega))
  have O2 := hide (owns_low (own_two15 (B := W.heap.size + 1) (u0 := .slice a1 r c1) (u1 := .slice a2 r c2) o2 (by omega)) (base' := W.heap.size) (by omega))
  have HNE := hide hne
  have HBf := hide ((HB1.out.setCell (p := ⟨W.heap.size + 1, 0, none⟩) (by show W.heap.size ≤ W.heap.size + 1; omega) (.slice a1 r c1)).setCell (p := ⟨W.heap.size + 1, 1, none⟩) (by show W.heap.size ≤ W.heap.size + 1; omega) (.slice a2 r c2))
  clear o1 o2 hne hb1 e0
  go_wp2_with fail
  exact bodyPost_ret (v := .tuple #[.agg #[.slice a1 r c1, .slice a2 r c2], .bool ok]) (by simp [results, Tryz.results28, go_sem, p0, p1]) rfl ⟨_, _, rfl, HBf.out, O1.out, O2.out, HNE.out⟩
set_option maxHeartbeats 2000000 in
theorem ssp_no {n n' : Nat} {gs : List Gd} {ls : List (Int × Int)} (HN : Hid (gs.length = n)) (hn : n ≤ 1048576) (HL : Hid (ls.length = n')) (hn' : n' ≤ 1048576) (hg : sheetB gs ls = false) : SpAns 42 n n' 0 false gs ls [] [] := by
  intro W X Y hs t
  have HT := hide t
  have HSh := hide hs
  have HG := hide hg
  have b1 := below_new W (.cells #[.slice (some ⟨X, 0, none⟩) n n, .slice (some ⟨Y, 0, none⟩) n' n'] 38)
  have b2 := below_new (W.alloc (.cells #[.slice (some ⟨X, 0, none⟩) n n, .slice (some ⟨Y, 0, none⟩) n' n'] 38)) (.cells #[.slice none 0 0, .slice none 0 0] 61)
  have HB := hide (b1.trans (b2.mono b1.size))
  have PR := hide (PBox.new (W.alloc (.cells #[.slice (some ⟨X, 0, none⟩) n n, .slice (some ⟨Y, 0, none⟩) n' n'] 38)) (.slice none 0 0) (.slice none 0 0) 61)
  rw [World.size_alloc] at PR
  have FR : Hid (∀ i, ((W.alloc (.cells #[.slice (some ⟨X, 0, none⟩) n n, .slice (some ⟨Y, 0, none⟩) n' n'] 38)).alloc (.cells #[.slice none 0 0, .slice none 0 0] 61)).frozen? ⟨W.heap.size + 1, i, none⟩ = false) := hide fun i => by simp [go_sem]
  clear t hs b1 b2 hg
  go_enter Tryz.func42, Tryz.ntmps42
  go_wp2_with fail
  refine (sgsh_hid HG HN hn (Nat.le_refl _) HSh (hide (HT.out.below HB.out).g) HL hn' (Nat.le_refl _) (hide (HT.out.below HB.out).l)).mono ?_
  rintro e w1 ⟨rfl, hb1⟩
  have e0 : ((W.alloc (.cells #[.slice (some ⟨X, 0, none⟩) n n, .slice (some ⟨Y, 0, none⟩) n' n'] 38)).alloc (.cells #[.slice none 0 0, .slice none 0 0] 61)).heap.size = W.heap.size + 1 + 1 := by simp
  obtain ⟨p0, p1, pl⟩ := PR.out.below hb1
  have f0 := (hb1.frozen (p := ⟨W.heap.size + 1, 0, none⟩) (by show W.heap.size + 1 < _; rw [e0]; omega)).trans (FR.out 0)
  have f1 := (hb1.frozen (p := ⟨W.heap.size + 1, 1, none⟩) (by show W.heap.size + 1 < _; rw [e0]; omega)).trans (FR.out 1)
  have HB1 := hide (HB.out.trans (hb1.mono HB.out.size))
  have HBf := hide ((HB1.out.setCell (p := ⟨W.heap.size + 1, 0, none⟩) (by show W.heap.size ≤ W.heap.size + 1; omega) (.slice none 0 0)).setCell (p := ⟨W.heap.size + 1, 1, none⟩) (by show W.heap.size ≤ W.heap.size + 1; omega) (.slice none 0 0))
  clear hb1 e0
  go_wp2_with fail
  exact bodyPost_ret (v := .tuple #[.agg #[.slice none 0 0, .slice none 0 0], .bool false]) (by simp [results, Tryz.results42, go_sem, p0, p1]) rfl ⟨_, _, rfl, HBf.out, World.ownsRow_nil _ _ _ _, World.ownsRow_nil _ _ _ _, fun g hg => by cases hg⟩
set_option maxHeartbeats 2000000 in
theorem ssp_yes {n n' r : Nat} {ok : Bool} {gs : List Gd} {ls : List (Int × Int)} {R1 R2 : List Int} (HN : Hid (gs.length = n)) (hn : n ≤ 1048576) (HL : Hid (ls.length = n')) (hn' : n' ≤ 1048576) (hg : sheetB gs ls = true) (Hi : Hid (PoAns 67 n n' r ok gs ls R1 R2)) : SpAns 42 n n' r ok gs ls R1 R2 := by
  intro W X Y hs t
  have HT := hide t
  have HSh := hide hs
  have HG := hide hg
  have b1 := below_new W (.cells #[.slice (some ⟨X, 0, none⟩) n n, .slice (some ⟨Y, 0, none⟩) n' n'] 38)
  have PS1 := PBox.new W (.slice (some ⟨X, 0, none⟩) n n) (.slice (some ⟨Y, 0, none⟩) n' n') 38
  have b2 := below_new (W.alloc (.cells #[.slice (some ⟨X, 0, none⟩) n n, .slice (some ⟨Y, 0, none⟩) n' n'] 38)) (.cells #[.slice none 0 0, .slice none 0 0] 61)
  have PS := hide (PS1.below b2)
  have HB := hide (b1.trans (b2.mono b1.size))
  have PR := hide (PBox.new (W.alloc (.cells #[.slice (some ⟨X, 0, none⟩) n n, .slice (some ⟨Y, 0, none⟩) n' n'] 38)) (.slice none 0 0) (.slice none 0 0) 61)
  rw [World.size_alloc] at PR
  have FR : Hid (∀ i, ((W.alloc (.cells #[.slice (some ⟨X, 0, none⟩) n n, .slice (some ⟨Y, 0, none⟩) n' n'] 38)).alloc (.cells #[.slice none 0 0, .slice none 0 0] 61)).frozen? ⟨W.heap.size + 1, i, none⟩ = false) := hide fun i => by simp [go_sem]
  clear t hs b1 b2 hg PS1
  go_enter Tryz.func42, Tryz.ntmps42
  go_wp2_with fail
  refine (sgsh_hid HG HN hn (Nat.le_refl _) HSh (hide (HT.out.below HB.out).g) HL hn' (Nat.le_refl _) (hide (HT.out.below HB.out).l)).mono ?_
  rintro e w1 ⟨rfl, hb1⟩
  have e0 : ((W.alloc (.cells #[.slice (some ⟨X, 0, none⟩) n n, .slice (some ⟨Y, 0, none⟩) n' n'] 38)).alloc (.cells #[.slice none 0 0, .slice none 0 0] 61)).heap.size = W.heap.size + 1 + 1 := by simp
  have z1 := hb1.size
  rw [e0] at z1
  have PS2 := hide (PS.out.below hb1)
  have PR2 := hide (PR.out.below hb1)
  have FR2 : Hid (∀ i, w1.frozen? ⟨W.heap.size + 1, i, none⟩ = false) := hide fun i => (hb1.frozen (p := ⟨W.heap.size + 1, i, none⟩) (by show W.heap.size + 1 < _; rw [e0]; omega)).trans (FR.out i)
  have HB1 := hide (HB.out.trans (hb1.mono HB.out.size))
  clear hb1 e0 PS PR FR
  obtain ⟨s0, s1, sl⟩ := PS2.out
  go_wp2_with fail
  refine (Hi.out _ _ _ HSh.out (HT.out.below HB1.out).g (HT.out.below HB1.out).l).mono ?_
  rintro e w2 ⟨vv1, vv2, rfl, hb2, o1, o2, hne⟩
  obtain ⟨a1, c1, rfl⟩ := own_sh o1
  obtain ⟨a2, c2, rfl⟩ := own_sh o2
  obtain ⟨p0, p1, pl⟩ := PR2.out.below hb2
  have f0 := (hb2.frozen (p := ⟨W.heap.size + 1, 0, none⟩) (by show W.heap.size + 1 < _; omega)).trans (FR2.out 0)
  have f1 := (hb2.frozen (p := ⟨W.heap.size + 1, 1, none⟩) (by show W.heap.size + 1 < _; omega)).trans (FR2.out 1)
  have HB2 := hide (HB1.out.trans (hb2.mono HB1.out.size))
  have O1 := hide (owns_low (own_two15 (B := W.heap.size + 1) (u0 := .slice a1 r c1) (u1 := .slice a2 r c2) o1 (by omega)) (base' := W.heap.size) (by omega))
  have O2 := hide (owns_low (own_two15 (B := W.heap.size + 1) (u0 := .slice a1 r c1) (u1 := .slice a2 r c2) o2 (by omega)) (base' := W.heap.size) (by omega))
  have HNE := hide hne
  have HBf := hide ((HB2.out.setCell (p := ⟨W.heap.size + 1, 0, none⟩) (by show W.heap.size ≤ W.heap.size + 1; omega) (.slice a1 r c1)).setCell (p := ⟨W.heap.size + 1, 1, none⟩) (by show W.heap.size ≤ W.heap.size + 1; omega) (.slice a2 r c2))
  clear o1 o2 hne hb2 s0 s1 sl z1
  go_wp2_with fail
  exact bodyPost_ret (v := .tuple #[.agg #[.slice a1 r c1, .slice a2 r c2], .bool ok]) (by simp [results, Tryz.results42, go_sem, p0, p1]) rfl ⟨_, _, rfl, HBf.out, O1.out, O2.out, HNE.out⟩
theorem sp_both {gs : List Gd} {ls : List (Int × Int)} (h : gs.length ≤ 1048576) (h' : ls.length ≤ 1048576) : ∃ (r : Nat) (ok : Bool) (R1 R2 : List Int), R1.length = r ∧ R2.length = r ∧ r ≤ 1000 ∧ SpAns 42 gs.length ls.length r ok gs ls R1 R2 ∧ SpAns 28 gs.length ls.length r ok gs ls R1 R2 := by
  cases hg : goodsB gs with
  | false =>
    exact ⟨0, false, [], [], rfl, rfl, by omega, ssp_no (hide rfl) h (hide rfl) h' (by rw [sheetB, hg]; rfl), isp_any (hide (poans_none fun W b b' h1 h2 h3 => po_bad1 rfl (Nat.le_refl _) h1 h2 hg))⟩
  | true =>
    cases hlb : linesB gs.length ls with
    | false =>
      exact ⟨0, false, [], [], rfl, rfl, by omega, ssp_no (hide rfl) h (hide rfl) h' (by rw [sheetB, hg, hlb]; rfl), isp_any (hide (poans_none fun W b b' h1 h2 h3 => po_bad2 rfl (Nat.le_refl _) h1 h2 hg rfl h3 hlb))⟩
    | true =>
      have h12 := goodsB_len hg
      exact ⟨gs.length, true, _, _, picks_len _ _, flow_len _ _, by omega, ssp_yes (hide rfl) h (hide rfl) h' (by rw [sheetB, hg, hlb]; rfl) (hide (poans_some fun W b b' h1 h2 h3 => spo_good rfl h (Nat.le_refl _) h1 h2 hg rfl h3 hlb)), isp_any (hide (poans_some fun W b b' h1 h2 h3 => po_good rfl (Nat.le_refl _) h1 h2 hg rfl h3 hlb))⟩
end Go.Proofs.YtlbagigghpiifabGreat
namespace Go.Proofs.YtlbagigghpiifabGreat
open Go.RowKit

/-- What both SheetProfiles answer; where they refuse there are no picks. -/
theorem sp_both17 {gs : List Gd} {ls : List (Int × Int)} (h : gs.length ≤ 1048576) (h' : ls.length ≤ 1048576) : ∃ (r : Nat) (ok : Bool) (R1 R2 : List Int), (ok = false → R1 = []) ∧ (ok = true → r = gs.length) ∧ R1.length = r ∧ R2.length = r ∧ r ≤ 1000 ∧ SpAns 42 gs.length ls.length r ok gs ls R1 R2 ∧ SpAns 28 gs.length ls.length r ok gs ls R1 R2 := by
  cases hg : goodsB gs with
  | false =>
    exact ⟨0, false, [], [], fun _ => rfl, fun h => (by cases h), rfl, rfl, by omega, ssp_no (hide rfl) h (hide rfl) h' (by rw [sheetB, hg]; rfl), isp_any (hide (poans_none fun W b b' h1 h2 h3 => po_bad1 rfl (Nat.le_refl _) h1 h2 hg))⟩
  | true =>
    cases hlb : linesB gs.length ls with
    | false =>
      exact ⟨0, false, [], [], fun _ => rfl, fun h => (by cases h), rfl, rfl, by omega, ssp_no (hide rfl) h (hide rfl) h' (by rw [sheetB, hg, hlb]; rfl), isp_any (hide (poans_none fun W b b' h1 h2 h3 => po_bad2 rfl (Nat.le_refl _) h1 h2 hg rfl h3 hlb))⟩
    | true =>
      have h12 := goodsB_len hg
      exact ⟨gs.length, true, _, _, fun h => (by cases h), fun _ => rfl, picks_len _ _, flow_len _ _, by omega, ssp_yes (hide rfl) h (hide rfl) h' (by rw [sheetB, hg, hlb]; rfl) (hide (poans_some fun W b b' h1 h2 h3 => spo_good rfl h (Nat.le_refl _) h1 h2 hg rfl h3 hlb)), isp_any (hide (poans_some fun W b b' h1 h2 h3 => po_good rfl (Nat.le_refl _) h1 h2 hg rfl h3 hlb))⟩
/-- What lies as DayCost begins: the sheet, the house, the answer's variable. -/
structure DC (w : World) (va vb vc : Value) (W : World) : Prop where
  h : HBox W (w.heap.size + 1) va vb vc
  c0 : W.cell? ⟨w.heap.size + 2, 0, none⟩ = some (.int .i64 0)
  c1 : W.cell? ⟨w.heap.size + 2, 1, none⟩ = some (.int .i64 0)
  f0 : W.frozen? ⟨w.heap.size + 2, 0, none⟩ = false
  f1 : W.frozen? ⟨w.heap.size + 2, 1, none⟩ = false
  lt : w.heap.size + 2 < W.heap.size
  b : Below w.heap.size w W
theorem DC.below {w W W' : World} {va vb vc : Value} (h : DC w va vb vc W) (hb : Below W.heap.size W W') : DC w va vb vc W' :=
  ⟨h.h.below hb, (hb.cell (p := ⟨w.heap.size + 2, 0, none⟩) h.lt).trans h.c0, (hb.cell (p := ⟨w.heap.size + 2, 1, none⟩) h.lt).trans h.c1, (hb.frozen (p := ⟨w.heap.size + 2, 0, none⟩) h.lt).trans h.f0, (hb.frozen (p := ⟨w.heap.size + 2, 1, none⟩) h.lt).trans h.f1, Nat.lt_of_lt_of_le h.lt hb.size, h.b.trans (hb.mono h.b.size)⟩
theorem DC.new (w : World) (o : Obj) (va vb vc : Value) (t u : TypeId) : DC w va vb vc (((w.alloc o).alloc (.cells #[va, vb, vc] t)).alloc (.cells #[.int .i64 0, .int .i64 0] u)) := by
  have b0 := below_new w o
  have b1 := below_new (w.alloc o) (.cells #[va, vb, vc] t)
  have b2 := below_new ((w.alloc o).alloc (.cells #[va, vb, vc] t)) (.cells #[.int .i64 0, .int .i64 0] u)
  have h0 := (HBox.new (w.alloc o) va vb vc t).below b2
  rw [World.size_alloc] at h0
  have hz : ((w.alloc o).alloc (.cells #[va, vb, vc] t)).heap.size = w.heap.size + 2 := by simp
  have hc : ∀ (i : Nat), (((w.alloc o).alloc (.cells #[va, vb, vc] t)).alloc (.cells #[.int .i64 0, .int .i64 0] u)).cell? ⟨w.heap.size + 2, i, none⟩ = (((w.alloc o).alloc (.cells #[va, vb, vc] t)).alloc (.cells #[.int .i64 0, .int .i64 0] u)).cell? ⟨((w.alloc o).alloc (.cells #[va, vb, vc] t)).heap.size, i, none⟩ := fun i => by rw [hz]
  have hf : ∀ (i : Nat), (((w.alloc o).alloc (.cells #[va, vb, vc] t)).alloc (.cells #[.int .i64 0, .int .i64 0] u)).frozen? ⟨w.heap.size + 2, i, none⟩ = (((w.alloc o).alloc (.cells #[va, vb, vc] t)).alloc (.cells #[.int .i64 0, .int .i64 0] u)).frozen? ⟨((w.alloc o).alloc (.cells #[va, vb, vc] t)).heap.size, i, none⟩ := fun i => by rw [hz]
  exact ⟨h0, (hc 0).trans (by simp [go_sem]), (hc 1).trans (by simp [go_sem]), (hf 0).trans (by simp [go_sem]), (hf 1).trans (by simp [go_sem]), by simp, b0.trans ((b1.trans (b2.mono (by simp))).mono (by simp))⟩
theorem DC.res {w W : World} {va vb vc : Value} (h : DC w va vb vc W) (u v : Value) : Below w.heap.size w ((W.setCell ⟨w.heap.size + 2, 0, none⟩ u).setCell ⟨w.heap.size + 2, 1, none⟩ v) :=
  (h.b.setCell (p := ⟨w.heap.size + 2, 0, none⟩) (by show w.heap.size ≤ w.heap.size + 2; omega) u).setCell (p := ⟨w.heap.size + 2, 1, none⟩) (by show w.heap.size ≤ w.heap.size + 2; omega) v
set_option maxHeartbeats 4000000 in
theorem dc_any {n' n'' r : Nat} {ok : Bool} {gs : List Gd} {ls : List (Int × Int)} {R1 R2 : List Int} {a b o : Option Addr} {n m q c d e X Y : Nat} {ws cs os : List Int} {w : World} (HSP : Hid (SpAns 28 n' n'' r ok gs ls R1 R2)) (HSH : Hid (Short gs)) (HT : Hid (TS w X Y n' n'' gs ls)) (HR : Hid (R1.length = r))
    (HN : Hid (ws.length = n)) (HM : Hid (cs.length = m)) (HQ : Hid (os.length = q)) (hq : q ≤ 1048576) (HA : Hid (ARow w a ws)) (HB : Hid (ARow w b cs)) (HO : Hid (ARow w o os)) :
    Calls Tryz.prog 10 #[.agg #[.slice (some ⟨X, 0, none⟩) n' n', .slice (some ⟨Y, 0, none⟩) n'' n''], .agg #[.slice a n c, .slice b m d, .slice o q e]] w fun e w' => e = .returned (fb (Hs.trF R1 cs ws os) (Hs.trG R1 cs ws os)) ∧ Below w.heap.size w w' := by
  have HD := hide (DC.new w (.cells #[.slice (some ⟨X, 0, none⟩) n' n', .slice (some ⟨Y, 0, none⟩) n'' n''] 38) (.slice a n c) (.slice b m d) (.slice o q e) 40 32)
  have HTR := hide fun (W : World) (p : Option Addr) (f : Nat) (hp : ARow W p R1) (ha : ARow W a ws) (hb : ARow W b cs) (ho : ARow W o os) => tr_any (c := c) (d := d) (e := e) (f := f) HR HM HN HQ hq (hide hp) (hide hb) (hide ha) (hide ho)
  simp only [fb_eq] at HTR
  obtain ⟨q1, q2, hpq⟩ : ∃ q1 q2, Hs.trF R1 cs ws os = (q1, q2) := ⟨_, _, rfl⟩
  rw [hpq] at HTR ⊢
  generalize Hs.trG R1 cs ws os = qb at *
  clear hpq
  go_enter Tryz.func10, Tryz.ntmps10
  go_wp2_with fail
  generalize (((w.alloc (.cells #[.slice (some ⟨X, 0, none⟩) n' n', .slice (some ⟨Y, 0, none⟩) n'' n''] 38)).alloc (.cells #[.slice a n c, .slice b m d, .slice o q e] 40)).alloc (.cells #[.int .i64 0, .int .i64 0] 32)) = W0 at *
  refine (HSP.out _ _ _ HSH.out (HT.out.below HD.out.b)).mono ?_
  rintro _ w1 ⟨vv1, vv2, rfl, hb1, o1, o2, _⟩
  obtain ⟨a1, c1, rfl⟩ := own_sh o1
  obtain ⟨a2, c2, rfl⟩ := own_sh o2
  have bn := below_new w1 (.cells #[.slice a1 r c1, .slice a2 r c2] 61)
  obtain ⟨a1', c1', e1, hr1⟩ := own_any7 HR.out (own_below o1 bn)
  cases e1
  have HR1 := hide hr1
  have PB := hide (PBox.new w1 (.slice a1 r c1) (.slice a2 r c2) 61)
  have HD1 := hide ((HD.out.below hb1).below bn)
  obtain ⟨x0, x1, x2, _⟩ := HD1.out.h
  obtain ⟨p0, p1, _⟩ := PB.out
  clear hb1 o1 o2 bn hr1
  go_wp2_with fail
  generalize w1.alloc (.cells #[.slice a1 r c1, .slice a2 r c2] 61) = W1 at *
  refine (HTR.out _ _ _ HR1.out (HA.out.below HD1.out.b) (HB.out.below HD1.out.b) (HO.out.below HD1.out.b)).mono ?_
  rintro _ w2 ⟨rfl, hb2⟩
  have HD2 := HD1.out.below hb2
  have c0 := HD2.c0
  have c1 := HD2.c1
  have g0 := HD2.f0
  have g1 := HD2.f1
  clear hb2 x0 x1 x2 p0 p1
  go_wp2_with fail
  exact bodyPost_ret (v := fb (q1, q2) qb) (by simp [results, Tryz.results10, go_sem, c0, c1, fb]) rfl ⟨rfl, HD2.res _ _⟩
set_option maxHeartbeats 2000000 in
theorem lp_no {n' n'' r : Nat} {ok : Bool} {gs : List Gd} {ls : List (Int × Int)} {R1 R2 : List Int} {X Y : Nat} {w : World} (HSP : Hid (SpAns 42 n' n'' r ok gs ls R1 R2)) (HSH : Hid (Short gs)) (HT : Hid (TS w X Y n' n'' gs ls)) (HR : Hid (R1.length = r)) (HG : Hid ((ok && Sh.flowB R1) = false)) :
    Calls Tryz.prog 22 #[.agg #[.slice (some ⟨X, 0, none⟩) n' n', .slice (some ⟨Y, 0, none⟩) n'' n'']] w fun e w' => e = .returned (.tuple #[.slice none 0 0, .bool false]) ∧ Below w.heap.size w w' := by
  have HB0 := hide (below_new w (.cells #[.slice (some ⟨X, 0, none⟩) n' n', .slice (some ⟨Y, 0, none⟩) n'' n''] 38))
  go_enter Tryz.func22, Tryz.ntmps22
  go_wp2_with fail
  refine (HSP.out _ _ _ HSH.out (HT.out.below HB0.out)).mono ?_
  rintro _ w1 ⟨vv1, vv2, rfl, hb1, o1, o2, _⟩
  obtain ⟨a1, c1, rfl⟩ := own_sh o1
  obtain ⟨a2, c2, rfl⟩ := own_sh o2
  have bn := below_new w1 (.cells #[.slice a1 r c1, .slice a2 r c2] 61)
  obtain ⟨a1', c1', e1, hr1⟩ := own_any7 HR.out (own_below o1 bn)
  cases e1
  have HR1 := hide hr1
  have PB := hide (PBox.new w1 (.slice a1 r c1) (.slice a2 r c2) 61)
  have HB1 := hide ((HB0.out.trans (hb1.mono HB0.out.size)).trans (bn.mono (HB0.out.trans (hb1.mono HB0.out.size)).size))
  obtain ⟨p0, p1, _⟩ := PB.out
  clear hb1 o1 o2 bn hr1
  cases ok
  · go_wp2_with fail
    go_ret2
    exact ⟨rfl, HB1.out⟩
  · have HF : Hid (Sh.flowB R1 = false) := hide (by have := HG.out; rwa [Bool.true_and] at this)
    go_wp2_with fail
    refine (sflows_eq HR1 HR HF).mono ?_
    rintro _ w2 ⟨rfl, rfl⟩
    go_wp2_with fail
    go_ret2
    exact ⟨rfl, HB1.out⟩
set_option maxHeartbeats 2000000 in
theorem lp_yes {n' n'' r : Nat} {gs : List Gd} {ls : List (Int × Int)} {R1 R2 : List Int} {X Y : Nat} {w : World} (HSP : Hid (SpAns 42 n' n'' r true gs ls R1 R2)) (HSH : Hid (Short gs)) (HT : Hid (TS w X Y n' n'' gs ls)) (HR : Hid (R1.length = r)) (HF : Hid (Sh.flowB R1 = true)) :
    Calls Tryz.prog 22 #[.agg #[.slice (some ⟨X, 0, none⟩) n' n', .slice (some ⟨Y, 0, none⟩) n'' n'']] w fun e w' => ∃ p f, e = .returned (.tuple #[.slice p r f, .bool true]) ∧ Below w.heap.size w w' ∧ ARow w' p R1 := by
  have HB0 := hide (below_new w (.cells #[.slice (some ⟨X, 0, none⟩) n' n', .slice (some ⟨Y, 0, none⟩) n'' n''] 38))
  go_enter Tryz.func22, Tryz.ntmps22
  go_wp2_with fail
  refine (HSP.out _ _ _ HSH.out (HT.out.below HB0.out)).mono ?_
  rintro _ w1 ⟨vv1, vv2, rfl, hb1, o1, o2, _⟩
  obtain ⟨a1, c1, rfl⟩ := own_sh o1
  obtain ⟨a2, c2, rfl⟩ := own_sh o2
  have bn := below_new w1 (.cells #[.slice a1 r c1, .slice a2 r c2] 61)
  obtain ⟨a1', c1', e1, hr1⟩ := own_any7 HR.out (own_below o1 bn)
  cases e1
  have HR1 := hide hr1
  have PB := hide (PBox.new w1 (.slice a1 r c1) (.slice a2 r c2) 61)
  have HB1 := hide ((HB0.out.trans (hb1.mono HB0.out.size)).trans (bn.mono (HB0.out.trans (hb1.mono HB0.out.size)).size))
  obtain ⟨p0, p1, _⟩ := PB.out
  clear hb1 o1 o2 bn hr1
  go_wp2_with fail
  refine (sflows_eq HR1 HR HF).mono ?_
  rintro _ w2 ⟨rfl, rfl⟩
  go_wp2_with fail
  go_ret2
  exact ⟨_, _, rfl, HB1.out, HR1.out⟩
namespace Hs
theorem tr_split (ps cs ws os : List Int) : trB ps cs ws os = (Sh.flowB ps && (houseB ws cs os && decide (ps.length = cs.length))) := by
  unfold trB dayB houseB
  cases Sh.flowB ps <;> cases slotsB cs ws <;> cases fitB cs os <;> cases decide (ps.length = cs.length) <;> rfl
theorem tr_none {ps cs ws os : List Int} (h : trB ps cs ws os = false) : trF ps cs ws os = (0, 0) ∧ trG ps cs ws os = false := by
  unfold trF trG
  rw [h]
  exact ⟨by simp, rfl⟩
end Hs
set_option maxHeartbeats 4000000 in
theorem sdc_any {n' n'' r : Nat} {ok : Bool} {gs : List Gd} {ls : List (Int × Int)} {R1 R2 : List Int} {a b o : Option Addr} {n m q c d e X Y : Nat} {ws cs os : List Int} {w : World} (HSP : Hid (SpAns 42 n' n'' r ok gs ls R1 R2)) (HOK : Hid (ok = false → R1 = [])) (HSH : Hid (Short gs)) (HT : Hid (TS w X Y n' n'' gs ls)) (HR : Hid (R1.length = r))
    (HN : Hid (ws.length = n)) (hn : n ≤ 1048576) (HM : Hid (cs.length = m)) (HQ : Hid (os.length = q)) (hq : q ≤ 1048576) (HA : Hid (ARow w a ws)) (HB : Hid (ARow w b cs)) (HO : Hid (ARow w o os)) :
    Calls Tryz.prog 7 #[.agg #[.slice (some ⟨X, 0, none⟩) n' n', .slice (some ⟨Y, 0, none⟩) n'' n''], .agg #[.slice a n c, .slice b m d, .slice o q e]] w fun e w' => e = .returned (fb (Hs.trF R1 cs ws os) (Hs.trG R1 cs ws os)) ∧ Below w.heap.size w w' := by
  have HD := hide (DC.new w (.cells #[.slice (some ⟨X, 0, none⟩) n' n', .slice (some ⟨Y, 0, none⟩) n'' n''] 38) (.slice a n c) (.slice b m d) (.slice o q e) 40 32)
  have HTR := hide fun (W : World) (p : Option Addr) (f : Nat) (hp : ARow W p R1) (ha : ARow W a ws) (hb : ARow W b cs) (ho : ARow W o os) => str_any (c := c) (d := d) (e := e) (f := f) HR HM HN hn HQ hq (hide hp) (hide hb) (hide ha) (hide ho)
  simp only [fb_eq] at HTR
  have HSPL := hide (Hs.tr_split R1 cs ws os)
  have HNO : Hid (Hs.trB R1 cs ws os = false → Hs.trF R1 cs ws os = (0, 0) ∧ Hs.trG R1 cs ws os = false) := hide Hs.tr_none
  cases hp : (ok && Sh.flowB R1)
  · have hf : Sh.flowB R1 = false := by
      cases ok
      · rw [HOK.out rfl]; rfl
      · rwa [Bool.true_and] at hp
    obtain ⟨e1, e2⟩ := HNO.out (by rw [HSPL.out, hf]; rfl)
    rw [e1, e2]
    have HP := hide hp
    clear hp hf HTR HNO HSPL e1 e2
    go_enter Tryz.func7, Tryz.ntmps7
    go_wp2_with fail
    generalize (((w.alloc (.cells #[.slice (some ⟨X, 0, none⟩) n' n', .slice (some ⟨Y, 0, none⟩) n'' n''] 38)).alloc (.cells #[.slice a n c, .slice b m d, .slice o q e] 40)).alloc (.cells #[.int .i64 0, .int .i64 0] 32)) = W0 at *
    refine (lp_no HSP HSH (hide (HT.out.below HD.out.b)) HR HP).mono ?_
    rintro _ w1 ⟨rfl, hb1⟩
    have HD1 := HD.out.below hb1
    have c0 := HD1.c0
    have c1 := HD1.c1
    have g0 := HD1.f0
    have g1 := HD1.f1
    clear hb1
    go_wp2_with fail
    exact bodyPost_ret (v := fb (0, 0) false) (by simp [results, Tryz.results7, go_sem, c0, c1, fb]) rfl ⟨rfl, HD1.res _ _⟩
  · rw [Bool.and_eq_true] at hp
    obtain ⟨rfl, hf⟩ := hp
    have HF := hide hf
    cases hh : Hs.houseB ws cs os
    · obtain ⟨e1, e2⟩ := HNO.out (by rw [HSPL.out, hf, hh]; rfl)
      rw [e1, e2]
      have HH := hide hh
      clear hf hh HTR HNO HSPL e1 e2
      go_enter Tryz.func7, Tryz.ntmps7
      go_wp2_with fail
      generalize (((w.alloc (.cells #[.slice (some ⟨X, 0, none⟩) n' n', .slice (some ⟨Y, 0, none⟩) n'' n''] 38)).alloc (.cells #[.slice a n c, .slice b m d, .slice o q e] 40)).alloc (.cells #[.int .i64 0, .int .i64 0] 32)) = W0 at *
      refine (lp_yes HSP HSH (hide (HT.out.below HD.out.b)) HR HF).mono ?_
      rintro _ w1 ⟨p, f, rfl, hb1, hr1⟩
      have HD1 := hide (HD.out.below hb1)
      obtain ⟨x0, x1, x2, _⟩ := HD1.out.h
      clear hb1 hr1
      go_wp2_with fail
      refine (sgh17_eq HN HM hn HQ hq (hide (HA.out.below HD1.out.b)) (hide (HB.out.below HD1.out.b)) (hide (HO.out.below HD1.out.b)) HH).mono ?_
      rintro _ w2 ⟨rfl, hb2⟩
      have HD2 := HD1.out.below hb2
      have c0 := HD2.c0
      have c1 := HD2.c1
      have g0 := HD2.f0
      have g1 := HD2.f1
      clear hb2 x0 x1 x2
      go_wp2_with fail
      exact bodyPost_ret (v := fb (0, 0) false) (by simp [results, Tryz.results7, go_sem, c0, c1, fb]) rfl ⟨rfl, HD2.res _ _⟩
    · have HH := hide hh
      by_cases hm : r = m
      · have he : ((r : Int) != (m : Int)) = false := by simp; omega
        obtain ⟨q1, q2, hpq⟩ : ∃ q1 q2, Hs.trF R1 cs ws os = (q1, q2) := ⟨_, _, rfl⟩
        rw [hpq] at HTR ⊢
        generalize Hs.trG R1 cs ws os = qb at *
        clear hf hh HNO HSPL hpq hm
        go_enter Tryz.func7, Tryz.ntmps7
        go_wp2_with fail
        generalize (((w.alloc (.cells #[.slice (some ⟨X, 0, none⟩) n' n', .slice (some ⟨Y, 0, none⟩) n'' n''] 38)).alloc (.cells #[.slice a n c, .slice b m d, .slice o q e] 40)).alloc (.cells #[.int .i64 0, .int .i64 0] 32)) = W0 at *
        refine (lp_yes HSP HSH (hide (HT.out.below HD.out.b)) HR HF).mono ?_
        rintro _ w1 ⟨p, f, rfl, hb1, hr1⟩
        have HD1 := hide (HD.out.below hb1)
        have HR1 := hide hr1
        obtain ⟨x0, x1, x2, _⟩ := HD1.out.h
        clear hb1 hr1
        go_wp2_with fail
        refine (sgh17_eq HN HM hn HQ hq (hide (HA.out.below HD1.out.b)) (hide (HB.out.below HD1.out.b)) (hide (HO.out.below HD1.out.b)) HH).mono ?_
        rintro _ w2 ⟨rfl, hb2⟩
        have HD2 := hide (HD1.out.below hb2)
        have HR2 := hide (HR1.out.below hb2)
        clear hb2 x0 x1 x2
        obtain ⟨x0, x1, x2, _⟩ := HD2.out.h
        go_wp2_with fail
        refine (HTR.out _ _ _ HR2.out (HA.out.below HD2.out.b) (HB.out.below HD2.out.b) (HO.out.below HD2.out.b)).mono ?_
        rintro _ w3 ⟨rfl, hb3⟩
        have HD3 := HD2.out.below hb3
        have c0 := HD3.c0
        have c1 := HD3.c1
        have g0 := HD3.f0
        have g1 := HD3.f1
        clear hb3 x0 x1 x2
        go_wp2_with fail
        exact bodyPost_ret (v := fb (q1, q2) qb) (by simp [results, Tryz.results7, go_sem, c0, c1, fb]) rfl ⟨rfl, HD3.res _ _⟩
      · have he : ((r : Int) != (m : Int)) = true := by simp; omega
        obtain ⟨e1, e2⟩ := HNO.out (by rw [HSPL.out, hf, hh, HR.out, HM.out]; simp [hm])
        rw [e1, e2]
        clear hf hh HTR HNO HSPL e1 e2 hm
        go_enter Tryz.func7, Tryz.ntmps7
        go_wp2_with fail
        generalize (((w.alloc (.cells #[.slice (some ⟨X, 0, none⟩) n' n', .slice (some ⟨Y, 0, none⟩) n'' n''] 38)).alloc (.cells #[.slice a n c, .slice b m d, .slice o q e] 40)).alloc (.cells #[.int .i64 0, .int .i64 0] 32)) = W0 at *
        refine (lp_yes HSP HSH (hide (HT.out.below HD.out.b)) HR HF).mono ?_
        rintro _ w1 ⟨p, f, rfl, hb1, hr1⟩
        have HD1 := hide (HD.out.below hb1)
        obtain ⟨x0, x1, x2, _⟩ := HD1.out.h
        clear hb1 hr1
        go_wp2_with fail
        refine (sgh17_eq HN HM hn HQ hq (hide (HA.out.below HD1.out.b)) (hide (HB.out.below HD1.out.b)) (hide (HO.out.below HD1.out.b)) HH).mono ?_
        rintro _ w2 ⟨rfl, hb2⟩
        have HD2 := HD1.out.below hb2
        have c0 := HD2.c0
        have c1 := HD2.c1
        have g0 := HD2.f0
        have g1 := HD2.f1
        clear x0 x1 x2
        obtain ⟨x0, x1, x2, _⟩ := HD2.h
        clear hb2
        go_wp2_with fail
        exact bodyPost_ret (v := fb (0, 0) false) (by simp [results, Tryz.results7, go_sem, c0, c1, fb]) rfl ⟨rfl, HD2.res _ _⟩
end Go.Proofs.YtlbagigghpiifabGreat
namespace Go.Proofs.YtlbagigghpiifabGreat
open Go.RowKit

theorem infI : (Tryz.prog.info? 3).map (fun i => (i.zero, i.size, i.bytes)) = some (some (.int .i64 0), 1, 8) := by kernel_rfl
theorem intI_cells (xs : List Int) : ∀ u ∈ ints xs, u.oneCell' = true := by
  intro u hu
  simp only [ints, List.mem_map] at hu
  obtain ⟨x, _, rfl⟩ := hu; rfl
theorem newI_one (w : World) (x : Int) {H : Nat} (hH : w.heap.size = H) : ∀ (j : Nat) (u : Value), (ints [x])[j]? = some u → (w.alloc (.cells #[.int .i64 x] 3)).cell? ((⟨H, 0, none⟩ : Addr).add j) = some u := by
  intro j u hj
  subst hH
  match j, hj with
  | 0, hj => simp [ints] at hj; subst hj; simp [Addr.add]
theorem own_some {w : World} {base e s n : Nat} {v : Value} {xs : List Value} (h : w.ownsRow base e s v n xs) (hn : n ≠ 0) : ∃ g cap, v = .slice (some ⟨g, 0, none⟩) n cap ∧ base ≤ g ∧ g < w.heap.size := by
  rcases h.2 with ⟨_, h0⟩ | ⟨g, cap, cur, hv, hb, hg, _⟩
  · exact absurd h0 hn
  · exact ⟨g, cap, hv, hb, (Array.getElem?_eq_some_iff.1 hg).1⟩
theorem ones_snoc (k : Nat) : ints (List.replicate (k + 1) 1) = ints (List.replicate k 1) ++ ints [1] := by
  rw [List.replicate_succ']; simp [ints]
theorem ones_set (ys : List Int) (k n : Nat) (hy : ys.length = n) (hk : k < n) (h : ys.take k = List.replicate k 1) : (ys.set k 1).take (k + 1) = List.replicate (k + 1) 1 := by
  rw [List.take_add_one, List.take_set_of_le (Nat.le_refl _), h, List.replicate_succ']
  congr 1
  simp [hk, hy]
/-- One more for the kind with the greatest gain, in an owned list. -/
theorem more_own {w : World} {base g n cap : Nat} {fs : List Int} {K : Nat} (hn : fs.length = n) (h0 : 0 < n) (own : w.ownsRow base 3 1 (.slice (some ⟨g, 0, none⟩) n cap) n (ints (Sh.share fs K))) :
    ∃ j x, Sh.next fs (Sh.share fs K) = j ∧ j < n ∧ w.cell? ⟨g, j, none⟩ = some (.int .i64 x) ∧ w.frozen? ⟨g, j, none⟩ = false ∧ x = (Sh.share fs K).getD j 0 ∧
      (w.setCell ⟨g, j, none⟩ (.int .i64 (x + 1))).ownsRow base 3 1 (.slice (some ⟨g, 0, none⟩) n cap) n (ints (Sh.share fs (K + 1))) := by
  have hl := Sh.next_lt (Sh.share fs K) (show 0 < fs.length by omega)
  have hsl := Sh.share_len fs K
  refine ⟨_, _, rfl, by omega, ?_, own.frozenAt _, rfl, ?_⟩
  · rw [own.cellAt _ (by omega), ints_get _ _ (by omega)]
  · obtain ⟨st1, st2⟩ := own.stored (Sh.next fs (Sh.share fs K)) (.int .i64 ((Sh.share fs K).getD (Sh.next fs (Sh.share fs K)) 0 + 1))
    rw [ints_set] at st1
    exact st1

set_option maxRecDepth 100000 in
set_option maxHeartbeats 2000000 in
theorem cf_any {a : Option Addr} {n c K : Nat} {p : Int} {fs : List Int} {w : World} (h : Hid (ARow w a fs)) (hn : Hid (fs.length = n)) (hk : Hid (Sh.kindsB fs p = true)) (hK : (K : Int) = p - n) :
    Calls Tryz.prog 90 #[.slice a n c, .int .i64 p] w fun e w' => e = .returned (.slice (some ⟨w.heap.size, 0, none⟩) n n) ∧ Below w.heap.size w w' ∧ w.heap.size < w'.heap.size ∧ w'.ownsRow w.heap.size 3 1 (.slice (some ⟨w.heap.size, 0, none⟩) n n) n (ints (Sh.share fs K)) := by
  have hkb := Sh.kindsB_yes hk.out
  have hfl := Sh.flowB_yes hkb.1
  have hnl := hn.out
  have n0 : 0 < n := by omega
  have n8 : n ≤ 8 := by omega
  have p0 : (n : Int) ≤ p := by omega
  have p1 : p ≤ 40 := hkb.2.2
  have HF := hide hkb.1
  have hmk := makeI_run n (by omega)
  have HM := hide (made_own w n (by omega))
  have hpn : wrap64 (p - n) = K := by rw [wrap_id _ (by omega) (by omega)]; omega
  clear hkb hfl hnl
  go_enter Tryz.func90, Tryz.ntmps90
  go_wp2_with fail
  go_loopw [6, 12] (fun _ s wr => ∃ (k : Nat) (ys : List Int), s = .int .i64 k ∧ k ≤ n ∧ ys.length = n ∧ Hid (ys.take k = List.replicate k 1) ∧ wr.ownsRow w.heap.size 3 1 (.slice (some ⟨w.heap.size, 0, none⟩) n n) n (ints ys) ∧ Below w.heap.size w wr ∧ w.heap.size < wr.heap.size) (fun _ s _ => n - (intOf s).toNat)
  case atStart => exact ⟨0, List.replicate n 0, rfl, Nat.zero_le _, by simp, hide (by simp), HM.out, (Below.refl _ _).alloc (Nat.le_refl _) _, by simp⟩
  case round =>
    obtain ⟨k, ys, rfl, hk', hy, HT, hown, hB, hz⟩ := hrel
    by_cases hlt : k < n
    · have HSET := hide (ones_set ys k n hy hlt HT.out)
      have i0 : (0 : Int) ≤ (k : Int) := by omega
      have i1 : (k : Int) < (n : Int) := by omega
      have c0 : wr.cell? ⟨w.heap.size, k, none⟩ = some (.int .i64 (ys.getD k 0)) := by rw [hown.cellAt k (by omega), ints_get ys k (by omega)]
      have f0 := hown.frozenAt k
      obtain ⟨st1, st2⟩ := hown.stored k (.int .i64 1)
      rw [ints_set] at st1
      have HST := hide st1
      generalize ys.getD k 0 = y at *
      clear hmk st1 hown st2
      go_wp2_with fail
      go_roundw
      case rel => exact ⟨k + 1, ys.set k 1, by go_num, by omega, by simpa using hy, HSET, HST.out, hB.setCell (Nat.le_refl _) _, by simpa using hz⟩
      case measure => simp only [intOf]; omega
    · have hke : k = n := by omega
      subst hke
      have HS : Hid (ys = Sh.share fs 0) := hide (by have := HT.out; rw [← hy, List.take_length] at this; unfold Sh.share; rw [hn.out]; rw [this, hy])
      have HO := hide hown
      clear hown hmk
      go_wp2_with fail
      go_loopw [23] (fun s wr => ∃ t : Nat, s = .int .i64 t ∧ t ≤ K ∧ Hid (wr.ownsRow w.heap.size 3 1 (.slice (some ⟨w.heap.size, 0, none⟩) k k) k (ints (Sh.share fs t))) ∧ Below w.heap.size w wr ∧ w.heap.size < wr.heap.size) (fun s _ => K - (intOf s).toNat)
      case atStart => exact ⟨0, rfl, Nat.zero_le _, hide (by rw [← HS.out]; exact HO.out), hB, hz⟩
      case round =>
        obtain ⟨t, rfl, ht, HOW, hB, hz⟩ := hrel
        by_cases hlt : t < K
        · have HSS := hide (Sh.share_shared HF.out t (by rw [hn.out]; omega))
          have HCL : Hid ((Sh.share fs t).length = k) := hide (by rw [Sh.share_len]; exact hn.out)
          have hgg := hide (gtg_any (c := c) (d := k) (hide (h.out.below hB)) hn (hide (arow_owns HCL.out.symm HOW.out)) HSS)
          have ho1 := fun (w1 : World) (hb : Below wr.heap.size wr w1) => more_own hn.out n0 (own_below4 HOW.out hb)
          have HO1 := hide ho1
          have hxb : Hid (∀ j, j < k → 1 ≤ (Sh.share fs t).getD j 0 ∧ (Sh.share fs t).getD j 0 ≤ 40) := hide fun j hj => Sh.sharedB_at HSS.out (by rw [hn.out]; exact hj)
          clear ho1
          generalize hj : Sh.next fs (Sh.share fs t) = j0 at hgg
          have HJ := hide hj
          clear hj
          go_wp2_with (go_at_call 107; refine hgg.out.mono ?_; rintro e w1 ⟨rfl, hb1⟩; obtain ⟨j, x, hj, hjn, hcx, hfx, hxx, hst⟩ := HO1.out w1 hb1; rw [HJ.out] at hj; subst hj; have hx1 := hxb.out j0 hjn; rw [← hxx] at hx1; obtain ⟨x0, x1⟩ := hx1; have HST := hide hst; have hjj : (j0 : Int) < (k : Int) := (by omega); have hjz : (0 : Int) ≤ (j0 : Int) := (by omega); clear hxx hst)
          go_roundw
          case rel => exact ⟨t + 1, by go_num, by omega, HST, (hB.trans (hb1.mono hB.size)).setCell (Nat.le_refl _) _, by simp; exact Nat.lt_of_lt_of_le hz hb1.size⟩
          case measure => simp only [intOf]; omega
        · have hte : t = K := by omega
          subst hte
          go_wp2_with fail
          go_ret
          exact ⟨rfl, hB, hz, HOW.out⟩
set_option maxRecDepth 100000 in
set_option maxHeartbeats 2000000 in
theorem scf_any {a : Option Addr} {n c K : Nat} {p : Int} {fs : List Int} {w : World} (h : Hid (ARow w a fs)) (hn : Hid (fs.length = n)) (hk : Hid (Sh.kindsB fs p = true)) (hK : (K : Int) = p - n) :
    Calls Tryz.prog 60 #[.slice a n c, .int .i64 p] w fun e w' => ∃ v, e = .returned v ∧ Below w.heap.size w w' ∧ w'.ownsRow w.heap.size 3 1 v n (ints (Sh.share fs K)) := by
  obtain ⟨i0, hi, hz0, hz1, hz2⟩ := info_parts infI
  have hkb := Sh.kindsB_yes hk.out
  have hfl := Sh.flowB_yes hkb.1
  have hnl := hn.out
  have n0 : 0 < n := by omega
  have n8 : n ≤ 8 := by omega
  have p0 : (n : Int) ≤ p := by omega
  have p1 : p ≤ 40 := hkb.2.2
  have HF := hide hkb.1
  clear hkb hfl hnl
  go_enter Tryz.func60, Tryz.ntmps60
  go_wp2_with fail
  go_loopw [5, 9] (fun v s wr => ∃ k : Nat, s = .int .i64 k ∧ k ≤ n ∧ wr.ownsRow w.heap.size 3 1 v k (ints (List.replicate k 1)) ∧ Below w.heap.size w wr) (fun _ s _ => n - (intOf s).toNat)
  case atStart => exact ⟨0, rfl, Nat.zero_le _, World.ownsRow_nil _ _ _ _, Below.refl _ _⟩
  case round =>
    obtain ⟨k, rfl, hk', hown, hB⟩ := hrel
    have hs2 := hB.size
    by_cases hlt : k < n
    · go_wp2_with (first
        | (at_builtin; refine wpList_append_own _ rfl _ _ 26 rfl w.heap.size 3 i0 (.int .i64 0) 1 8 Tryz.underlying26 hi hz0 hz1 hz2 rfl (by decide) _ _ _ rfl (hown.alloc _) ⟨wr.heap.size, 0, none⟩ 1 1 (ints [1]) rfl rfl (newI_one _ _ rfl) (intI_cells _) (by unfold maxLen; omega) (by omega) (by simp; omega) ?_))
      intro v' w4 hown' hgrow _
      have hfin := own_grow hown hgrow (Nat.le_refl _) hs2
      rw [← ones_snoc] at hown'
      go_wp2_with fail
      go_roundw
      case rel => exact ⟨k + 1, by go_num, by omega, hown', hB.trans hfin⟩
      case measure => simp only [intOf]; omega
    · have hke : k = n := by omega
      subst hke
      obtain ⟨g, cap, rfl, hg0, hgl⟩ := own_some hown (by omega)
      have HO := hide hown
      clear hown
      go_wp2_with fail
      go_loopw [6] (fun s wr => ∃ t : Nat, s = .int .i64 ((k : Int) + t) ∧ t ≤ K ∧ Hid (wr.ownsRow w.heap.size 3 1 (.slice (some ⟨g, 0, none⟩) k cap) k (ints (Sh.share fs t))) ∧ Below w.heap.size w wr ∧ g < wr.heap.size) (fun s _ => (p - intOf s).toNat)
      case atStart => exact ⟨0, by simp, Nat.zero_le _, hide (by unfold Sh.share; rw [hn.out]; exact HO.out), hB, hgl⟩
      case round =>
        obtain ⟨t, rfl, ht, HOW, hB, hz⟩ := hrel
        by_cases hlt : (k : Int) + t < p
        · have HSS := hide (Sh.share_shared HF.out t (by rw [hn.out]; omega))
          have HCL : Hid ((Sh.share fs t).length = k) := hide (by rw [Sh.share_len]; exact hn.out)
          have hgg := hide (snext_any (c := c) (d := cap) (hide (h.out.below hB)) hn (hide (arow_owns HCL.out.symm HOW.out)) HSS)
          have ho1 := fun (w1 : World) (hb : Below wr.heap.size wr w1) => more_own hn.out n0 (own_below4 HOW.out hb)
          have HO1 := hide ho1
          have hxb : Hid (∀ j, j < k → 1 ≤ (Sh.share fs t).getD j 0 ∧ (Sh.share fs t).getD j 0 ≤ 40) := hide fun j hj => Sh.sharedB_at HSS.out (by rw [hn.out]; exact hj)
          clear ho1
          generalize hj : Sh.next fs (Sh.share fs t) = j0 at hgg
          have HJ := hide hj
          clear hj
          go_wp2_with (go_at_call 86; refine hgg.out.mono ?_; rintro e w1 ⟨rfl, hb1⟩; obtain ⟨j, x, hj, hjn, hcx, hfx, hxx, hst⟩ := HO1.out w1 hb1; rw [HJ.out] at hj; subst hj; have hx1 := hxb.out j0 hjn; rw [← hxx] at hx1; obtain ⟨x0, x1⟩ := hx1; have HST := hide hst; have hjj : (j0 : Int) < (k : Int) := (by omega); have hjz : (0 : Int) ≤ (j0 : Int) := (by omega); clear hxx hst)
          go_roundw
          case rel => exact ⟨t + 1, by go_num, by omega, HST, (hB.trans (hb1.mono hB.size)).setCell hg0 _, by simp; exact Nat.lt_of_lt_of_le hz hb1.size⟩
          case measure => simp only [intOf]; omega
        · have hte : t = K := by omega
          subst hte
          go_wp2_with fail
          go_ret
          exact ⟨_, rfl, hB, HOW.out⟩
def shareL (fs : List Int) (p : Int) : List Int := Sh.share fs (p - fs.length).toNat
theorem shareL_of {fs : List Int} {n K : Nat} {p : Int} (hn : Hid (fs.length = n)) (hK : (K : Int) = p - n) : Sh.share fs K = shareL fs p := by
  unfold shareL; rw [hn.out, ← hK]; rfl
theorem shareL_len (fs : List Int) (p : Int) : (shareL fs p).length = fs.length := Sh.share_len _ _
set_option maxRecDepth 100000 in
set_option maxHeartbeats 1000000 in
theorem so_no {a : Option Addr} {n c : Nat} {p : Int} {fs : List Int} {w : World} (h : Hid (ARow w a fs)) (hn : Hid (fs.length = n)) (hk : Hid (Sh.kindsB fs p = false)) :
    Calls Tryz.prog 62 #[.slice a n c, .int .i64 p] w fun e w' => e = .returned (.tuple #[.slice none 0 0, .bool false]) ∧ Below w.heap.size w w' := by
  go_enter Tryz.func62, Tryz.ntmps62
  go_wp2_with (go_at_call 89; refine (kinds_eq h hn hk).mono ?_; rintro e w1 ⟨rfl, rfl⟩)
  go_ret2
  exact ⟨rfl, Below.refl _ _⟩
set_option maxRecDepth 100000 in
set_option maxHeartbeats 1000000 in
theorem so_yes {a : Option Addr} {n c : Nat} {p : Int} {fs : List Int} {w : World} (h : Hid (ARow w a fs)) (hn : Hid (fs.length = n)) (hk : Hid (Sh.kindsB fs p = true)) :
    Calls Tryz.prog 62 #[.slice a n c, .int .i64 p] w fun e w' => ∃ g, e = .returned (.tuple #[.slice (some ⟨g, 0, none⟩) n n, .bool true]) ∧ Below w.heap.size w w' ∧ w'.ownsRow w.heap.size 3 1 (.slice (some ⟨g, 0, none⟩) n n) n (ints (shareL fs p)) := by
  obtain ⟨K, hK⟩ : ∃ K : Nat, (K : Int) = p - n := ⟨(p - n).toNat, by have := Sh.kindsB_yes hk.out; have := hn.out; omega⟩
  have HE := hide (shareL_of hn hK)
  go_enter Tryz.func62, Tryz.ntmps62
  go_wp2_with (first
    | (go_at_call 89; refine (kinds_eq h hn hk).mono ?_; rintro e w1 ⟨rfl, rfl⟩)
    | (go_at_call 90; refine (cf_any h hn hk hK).mono ?_; rintro e w1 ⟨rfl, hb1, hz1, own1⟩; rw [HE.out] at own1))
  go_ret2
  exact ⟨_, rfl, hb1, own1⟩
end Go.Proofs.YtlbagigghpiifabGreat
namespace Go.Proofs.YtlbagigghpiifabGreat.Hs
open Go.Proofs.YtlbagigghpiifabGreat

def hfB (ok : Bool) (ps ws : List Int) : Bool := (ok && Sh.flowB ps) && (decide (ps.length ≤ ws.length) && (decide (ws.length ≤ 10) && Pf.allB ws 0 1000))
def hfC (ps ws : List Int) : List Int := shareL ps (ws.length : Int)
theorem hf_yes {ok : Bool} {ps ws : List Int} (h : hfB ok ps ws = true) : ok = true ∧ Sh.flowB ps = true ∧ ps.length ≤ ws.length ∧ ws.length ≤ 10 ∧ Pf.allB ws 0 1000 = true := by
  simp only [hfB, Bool.and_eq_true, decide_eq_true_eq] at h
  exact ⟨h.1.1, h.1.2, h.2.1, h.2.2.1, h.2.2.2⟩
theorem hf_kinds {ok : Bool} {ps ws : List Int} (h : hfB ok ps ws = true) : Sh.kindsB ps (ws.length : Int) = true := by
  obtain ⟨_, h1, h2, h3, _⟩ := hf_yes h
  unfold Sh.kindsB
  rw [h1, Bool.true_and]
  exact Pf.inB_of (by omega) (by omega)
theorem el_le_sum : ∀ {xs : List Int}, (∀ i, i < xs.length → 0 ≤ xs.getD i 0) → ∀ i, i < xs.length → xs.getD i 0 ≤ xs.sum ∧ 0 ≤ xs.sum
  | [], _, i, hi => absurd hi (Nat.not_lt_zero _)
  | x :: r, h, i, hi => by
    have hx : 0 ≤ x := by simpa using h 0 (by simp)
    have hr : ∀ j, j < r.length → 0 ≤ r.getD j 0 := fun j hj => by simpa using h (j + 1) (by simpa using hj)
    have hs : 0 ≤ r.sum := by
      cases r with
      | nil => simp
      | cons y t => exact (el_le_sum hr 0 (by simp)).2
    cases i with
    | zero => simp; omega
    | succ i =>
      have := el_le_sum hr i (by simpa using hi)
      simp only [List.getD_cons_succ, List.sum_cons]
      omega
theorem hfC_len (ps ws : List Int) : (hfC ps ws).length = ps.length := shareL_len _ _
theorem hfC_sum {ps ws : List Int} (h0 : 0 < ps.length) (h : ps.length ≤ ws.length) : (hfC ps ws).sum = (ws.length : Int) := by
  unfold hfC shareL
  rw [Sh.share_sum h0]
  omega
theorem hfC_cnt {ps ws : List Int} (h0 : 1 ≤ ps.length) (h8 : ps.length ≤ 8) (h : ps.length ≤ ws.length) (hw : ws.length ≤ 10) : cntB (hfC ps ws) = true := by
  have hs := hfC_sum (ws := ws) (by omega) h
  have hl := hfC_len ps ws
  have hge : ∀ i, i < (hfC ps ws).length → 1 ≤ (hfC ps ws).getD i 0 := fun i hi => Sh.share_ge (by omega) _ i (by omega)
  simp only [cntB, Bool.and_eq_true, decide_eq_true_eq]
  refine ⟨Pf.inB_of (by omega) (by omega), Pf.allB_of fun i hi => Pf.inB_of (hge i hi) ?_, by omega⟩
  have := (el_le_sum (fun j hj => by have := hge j hj; omega) i hi).1
  omega
theorem hf_day {ok : Bool} {ps ws : List Int} (h : hfB ok ps ws = true) : dayB ps (hfC ps ws) ws = true := by
  obtain ⟨_, h1, h2, h3, h4⟩ := hf_yes h
  obtain ⟨f1, f2, _⟩ := Sh.flowB_yes h1
  simp only [dayB, slotsB, Bool.and_eq_true, decide_eq_true_eq]
  exact ⟨⟨h1, (hfC_len ps ws).symm⟩, ⟨hfC_cnt f1 f2 h2 h3, hfC_sum (by omega) h2⟩, h4⟩
/-- What is refused on the way is refused in the end, too. -/
theorem day_hf {ok : Bool} {ps ws C : List Int} (hok : ok = false → ps = []) (hC : C = if Sh.kindsB ps (ws.length : Int) = true then hfC ps ws else []) (h : hfB ok ps ws = false) : dayB ps C ws = false := by
  cases hd : dayB ps C ws
  · rfl
  · obtain ⟨h1, h2, h3⟩ := day_yes hd
    obtain ⟨f1, f2, _⟩ := Sh.flowB_yes h1
    obtain ⟨s1, s2, s3, s4⟩ := slotsB_yes h3
    cases hk : Sh.kindsB ps (ws.length : Int)
    · rw [hC, hk] at h2
      simp at h2
      rw [h2] at f1
      simp at f1
    · obtain ⟨_, k1, _⟩ := Sh.kindsB_yes hk
      have hkt : ok = true := by
        cases ok
        · rw [hok rfl] at f1; simp at f1
        · rfl
      have : hfB ok ps ws = true := by
        simp only [hfB, Bool.and_eq_true, decide_eq_true_eq]
        exact ⟨⟨hkt, h1⟩, by omega, s4, s3⟩
      rw [this] at h; cases h
end Go.Proofs.YtlbagigghpiifabGreat.Hs
namespace Go.Proofs.YtlbagigghpiifabGreat
open Go.RowKit Go.Sort

set_option maxHeartbeats 8000000 in
theorem ss_any {p b a : Option Addr} {n m c d f : Nat} {ps cs ws : List Int} {w : World} (HN : Hid (ws.length = n)) (HM_ : Hid (cs.length = m)) (HR : Hid (ps.length = m)) (HF : Hid (Sh.flowB ps = true)) (HC : Hid (Hs.slotsB cs ws = true)) (HA : Hid (ARow w a ws)) (HB : Hid (ARow w b cs)) (HP : Hid (ARow w p ps)) :
    Calls Tryz.prog 61 #[.slice p m f, .slice b m d, .slice a n c] w fun e w' => ∃ g, e = .returned (.slice (some ⟨g, 0, none⟩) n n) ∧ Below w.heap.size w w' ∧ w.heap.size ≤ g ∧ Ow w' g n (Hs.ownL ps cs ws) := by
  have hn10 : n ≤ 10 := by have := (Hs.slotsB_yes HC.out).2.2.2; have := HN.out; omega
  have hm8 : m ≤ 8 := by have := (Hs.cntB_yes (Hs.slotsB_yes HC.out).1).2.1; have := HM_.out; omega
  have hmk := makeI_run n (by omega)
  have HGW := hide (Hs.slotsB_yes HC.out).2.2.1
  have HGL := hide (Hs.goodsL_len ps cs)
  have HGA : Hid ((Hs.exp cs (Hs.goodsL ps cs)).length = n) := hide ((Hs.goodsL_all (by rw [HM_.out, HR.out]) HC.out).trans HN.out)
  have HSG := hide fun (W : World) (hp : ARow W p ps) (hb : ARow W b cs) => sgoods_any (c := f) (d := d) HR HM_ (by omega) (hide fun i hi => Sh.flowB_at HF.out (by rw [HR.out]; exact hi)) (hide fun i hi => Hs.cntB_at (Hs.slotsB_yes HC.out).1 (by rw [HM_.out]; exact hi)) (hide hp) (hide hb)
  go_enter Tryz.func61, Tryz.ntmps61
  go_wp2_with fail
  go_loopw [7, 9, 18] (fun s7 _ s wr => ∃ (k : Nat), s = .int .i64 k ∧ k ≤ n ∧ wr.ownsRow w.heap.size 3 1 s7 k (ints ((negs ws).take k)) ∧ Below w.heap.size w wr) (fun _ _ s _ => n - (intOf s).toNat)
  case atStart => exact ⟨0, rfl, Nat.zero_le _, World.ownsRow_nil _ _ _ _, Below.refl _ _⟩
  case round =>
    obtain ⟨k, rfl, hk, hown, hB⟩ := hrel
    by_cases hlt : k < n
    · obtain ⟨ba, oa, rfl, r1⟩ := (HA.out.below hB).at (i := k) (by rw [HN.out]; exact hlt)
      have i0 : (0 : Int) ≤ (k : Int) := by omega
      have i1 : (k : Int) < (n : Int) := by omega
      have hx := Pf.inB_yes (Pf.allB_get HGW.out (show k < ws.length by rw [HN.out]; exact hlt))
      obtain ⟨v', w3, hr3, own3, hg3⟩ := push_int (x := - ws.getD k 0) hown (by omega) hB.size
      rw [← negs_step ws (by rw [HN.out]; exact hlt)] at own3
      have HO3 := hide own3
      have HB3 := hide (hB.trans (grown_under' hg3 hown (Nat.le_refl _) hB.size))
      generalize ws.getD k 0 = x at *
      have nx : wrap64 (-x) = -x := by unfold wrap64; omega
      clear hmk own3 hg3 hown hx
      go_wp2_with (first | (at_builtin; refine Lib.wpList_append_run _ rfl _ _ _ _ rfl _ _ rfl rfl _ _ (hr3 _) ?_))
      go_roundw
      case rel => exact ⟨k + 1, by go_num, by omega, HO3.out, HB3.out⟩
      case measure => simp only [intOf]; omega
    · have hke : k = n := by omega
      subst hke
      rw [show (negs ws).take k = negs ws by rw [← HN.out, ← negs_len ws, List.take_length]] at hown
      obtain ⟨an, cn, rfl, hrn⟩ := own_any7 (by rw [negs_len, HN.out]) hown
      have HRN := hide hrn
      have HBw := hide hB
      clear hown hrn hB
      go_wp2_with fail
      refine (srank_any (by rw [negs_len, HN.out]) (by omega) HRN.out).mono ?_
      rintro _ w2 ⟨v2, rfl, hb2, own2⟩
      obtain ⟨at2, ca, rfl, _⟩ := own_any7 (by rw [nats_len, Rk.rank_len, negs_len, HN.out]) own2
      have HBw2 := hide (HBw.out.trans (hb2.mono HBw.out.size))
      have HM := hide (made_own w2 k (by omega))
      have HBm := hide ((Below.refl w2.heap.size w2).alloc (Nat.le_refl _) (.cells (madeCells #[.int .i64 0] k) 3))
      have HO2 := hide (own_below own2 HBm.out)
      have HL2 : Hid (∀ g, (Value.slice at2 k ca).ownBlock = some g → g < w2.heap.size) := hide fun g e => (own2.lt g e).2
      have HZ : Hid (w2.heap.size < (w2.alloc (.cells (madeCells #[.int .i64 0] k) 3)).heap.size) := hide (by simp)
      have HBw3 := hide (HBw2.out.trans (HBm.out.mono HBw2.out.size))
      have hzw := HBw2.out.size
      clear own2 hb2 HRN
      go_wp2_with fail
      generalize hW : w2.alloc (.cells (madeCells #[.int .i64 0] k) 3) = W at *
      clear hW hmk
      refine (HSG.out _ (HP.out.below HBw3.out) (HB.out.below HBw3.out)).mono ?_
      rintro _ w3 ⟨v3, rfl, hb3, own3⟩
      obtain ⟨ag, cg, rfl, hrg⟩ := own_any7 (by rw [nats_len]; exact HGL.out.trans HR.out) own3
      have HM3 := hide (owns_keep HM.out (hb3.block _ HZ.out))
      have HBw4 := hide (HBw3.out.trans (hb3.mono HBw3.out.size))
      have HRS3 : Hid (∀ w', w3.grownBy w' (some w2.heap.size) → ARow w' at2 (nats (Rk.rank (negs ws)))) := hide fun w' hg => by
        have h := (own_below HO2.out hb3).kept hg (by
          right
          intro e
          have := HL2.out _ e
          omega)
        obtain ⟨a', c', e, hr⟩ := own_any7 (by rw [nats_len, Rk.rank_len, negs_len, HN.out]) h
        cases e
        exact hr
      have HRG3 : Hid (∀ w', w3.grownBy w' (some w2.heap.size) → ARow w' ag (nats (Hs.goodsL ps cs))) := hide fun w' hg => by
        have h := own3.kept hg (by
          right
          intro e
          have h1 := (own3.lt w2.heap.size e).1
          have h2 := HZ.out
          omega)
        obtain ⟨a', c', e, hr⟩ := own_any7 (by rw [nats_len]; exact HGL.out.trans HR.out) h
        cases e
        exact hr
      have hz4 := HBw3.out.size
      have hz5 := hb3.size
      have hz6 := HZ.out
      clear own3 hrg hb3 HM HBm HO2 HL2
      go_wp2_with fail
      go_loopw [12, 14, 15, 37] (fun s12 _ _ s wr => ∃ (q t : Nat) (ys : List Int), s12 = .int .i64 t ∧ s = .int .i64 q ∧ q ≤ m ∧ t ≤ k ∧ Hid (t = Hs.upto cs (Hs.goodsL ps cs) q) ∧ Hid (ys = putTo (Hs.exp cs (Hs.goodsL ps cs)) (Rk.rank (negs ws)) k t) ∧ Hid (wr.ownsRow w2.heap.size 3 1 (.slice (some ⟨w2.heap.size, 0, none⟩) k k) k (ints ys)) ∧ Hid (w3.grownBy wr (some w2.heap.size))) (fun _ _ _ s _ => m - (intOf s).toNat)
      case atStart => exact ⟨0, 0, List.replicate k 0, rfl, rfl, Nat.zero_le _, Nat.zero_le _, hide rfl, hide rfl, HM3, hide (World.grownBy.refl _ _)⟩
      case round =>
        obtain ⟨q, t, ys, rfl, rfl, hq, ht, HTU, HY, HO, HG⟩ := hrel
        have HWr := hide (HBw4.out.trans (grown_below' HG.out (by omega) HBw4.out.size))
        by_cases hqm : q < m
        · have i0 : (0 : Int) ≤ (q : Int) := by omega
          have i1 : (q : Int) < (m : Int) := by omega
          have hkg : q < (Hs.goodsL ps cs).length := by rw [HGL.out, HR.out]; exact hqm
          obtain ⟨bg, og, rfl, r1⟩ := (HRG3.out _ HG.out).at (i := q) (by rw [nats_len]; exact hkg)
          rw [nats_get] at r1
          have hxm : (Hs.goodsL ps cs).getD q 0 < m := by rw [← HR.out]; exact Hs.goodsL_lt (by rw [HR.out]; exact hqm)
          have hc1 := Hs.cntB_at (Hs.slotsB_yes HC.out).1 (i := (Hs.goodsL ps cs).getD q 0) (by rw [HM_.out]; exact hxm)
          have HUS := hide (Hs.upto_succ cs (Hs.goodsL ps cs) hkg)
          have hul := Hs.upto_le cs (Hs.goodsL ps cs) (q + 1)
          rw [HUS.out, HGA.out, ← HTU.out] at hul
          have HEA := hide fun (j : Nat) (hj : j < (cs.getD ((Hs.goodsL ps cs).getD q 0) 0).toNat) => Hs.exp_at cs (Hs.goodsL ps cs) hkg hj
          rw [← HTU.out] at HEA HUS
          obtain ⟨bb, ob, rfl, r2⟩ := (HB.out.below HWr.out).at (i := (Hs.goodsL ps cs).getD q 0) (by rw [HM_.out]; exact hxm)
          generalize hxx : (Hs.goodsL ps cs).getD q 0 = x at *
          generalize hcc : cs.getD x 0 = cI at *
          obtain ⟨cn, rfl⟩ := Int.eq_ofNat_of_zero_le (show 0 ≤ cI by omega)
          rw [Int.toNat_natCast] at HUS hul HEA
          have j0 : (0 : Int) ≤ (x : Int) := by omega
          have j1 : (x : Int) < (m : Int) := by omega
          clear hxx hcc
          go_wp2_with fail
          go_loopw [12, 15] (fun s12 s15 wr => ∃ (j u r : Nat) (zs : List Int), s12 = .int .i64 (u : Int) ∧ s15 = .int .i64 (r : Int) ∧ Hid (u = t + j ∧ r + j = cn) ∧ Hid (zs = putTo (Hs.exp cs (Hs.goodsL ps cs)) (Rk.rank (negs ws)) k u) ∧ Hid (wr.ownsRow w2.heap.size 3 1 (.slice (some ⟨w2.heap.size, 0, none⟩) k k) k (ints zs)) ∧ Hid (w3.grownBy wr (some w2.heap.size))) (fun _ s _ => (intOf s).toNat)
          case atStart => exact ⟨0, t, cn, ys, rfl, rfl, hide ⟨rfl, rfl⟩, HY, HO, HG⟩
          case round =>
            obtain ⟨j, u, r, zs, rfl, rfl, HJ, HZ2, HOI, HGI⟩ := hrel
            obtain ⟨hu, hr⟩ := HJ.out
            clear r1 r2
            by_cases hjc : 0 < r
            · have p0 : (0 : Int) < (r : Int) := by omega
              have p1 : (0 : Int) ≤ (u : Int) := by omega
              have p2 : (u : Int) < (k : Int) := by omega
              obtain ⟨bs, os, rfl, r3⟩ := (HRS3.out _ HGI.out).at (i := u) (by rw [nats_len, Rk.rank_len, negs_len, HN.out]; omega)
              rw [nats_get] at r3
              have hp : (Rk.rank (negs ws)).getD u 0 < k := by have := rk_nth_lt (vs := negs ws) (k := u) (by rw [negs_len, HN.out]; omega); rwa [negs_len, HN.out] at this
              have HST0 : Hid (zs.set ((Rk.rank (negs ws)).getD u 0) (x : Int) = putTo (Hs.exp cs (Hs.goodsL ps cs)) (Rk.rank (negs ws)) k (u + 1)) := hide (by
                rw [HZ2.out]
                show _ = List.set _ _ _
                rw [show (Hs.exp cs (Hs.goodsL ps cs)).getD u 0 = x by rw [hu]; exact HEA.out j (by omega)])
              generalize (Rk.rank (negs ws)).getD u 0 = y at *
              have y0 : (0 : Int) ≤ (y : Int) := by omega
              have y1 : (y : Int) < (k : Int) := by omega
              have hzl : zs.length = k := by rw [HZ2.out, putTo_len]
              have c0 : wr.cell? ⟨w2.heap.size, y, none⟩ = some (.int .i64 (zs.getD y 0)) := by rw [HOI.out.cellAt y (by omega), ints_get zs y (by omega)]
              have f0 := HOI.out.frozenAt y
              obtain ⟨st1, st2⟩ := HOI.out.stored y (.int .i64 (x : Int))
              rw [ints_set] at st1
              have HST := hide st1
              have HG4 := hide (grow_set17 HGI.out st2 rfl)
              have HJ2 : Hid (u + 1 = t + (j + 1) ∧ (r - 1) + (j + 1) = cn) := hide ⟨by omega, by omega⟩
              have es : wrap64 ((r : Int) - 1) = ((r - 1 : Nat) : Int) := by rw [wrap_id _ (by omega) (by omega)]; omega
              clear st1 st2 hu hr HJ
              go_wp2_with fail
              go_roundw
              case rel => exact ⟨j + 1, u + 1, r - 1, zs.set y (x : Int), by go_num, by first | rfl | go_num | (congr 1; omega), HJ2, HST0, HST, HG4⟩
              case measure => simp only [intOf]; omega
            · have hr0 : r = 0 := by omega
              subst hr0
              have hjc2 : j = cn := by omega
              subst hjc2
              subst hu
              go_wp2_with fail
              go_roundw
              case rel => exact ⟨q + 1, t + j, zs, rfl, by go_num, by omega, by omega, hide HUS.out.symm, HZ2, HOI, HGI⟩
              case measure => simp only [intOf]; omega
        · have hke : q = m := by omega
          subst hke
          have htn : t = k := by rw [HTU.out, ← HGA.out, ← Hs.upto_all, HGL.out, HR.out]
          have hys : ys = Hs.ownL ps cs ws := by rw [HY.out, Hs.ownL, HN.out, htn]; rfl
          have ho := HO.out
          rw [hys] at ho
          obtain ⟨O5, _⟩ := Ow.mk' ho
          have HO5 := hide O5
          clear O5 ho hys
          go_wp2_with fail
          go_ret
          exact ⟨_, rfl, HWr.out, by omega, HO5.out⟩
end Go.Proofs.YtlbagigghpiifabGreat
namespace Go.Proofs.YtlbagigghpiifabGreat
open Go.RowKit Go.Sort

end Go.Proofs.YtlbagigghpiifabGreat
namespace Go.Proofs.YtlbagigghpiifabGreat
open Go.RowKit

/-- A house of one's own: three lists that share nothing. -/
structure HV (base : Nat) (ws cs os : List Int) (v0 v1 v2 : Value) (W : World) : Prop where
  o0 : W.ownsRow base 3 1 v0 ws.length (ints ws)
  o1 : W.ownsRow base 3 1 v1 cs.length (ints cs)
  o2 : W.ownsRow base 3 1 v2 os.length (ints os)
  d01 : ∀ g, v0.ownBlock = some g → v1.ownBlock ≠ some g
  d02 : ∀ g, v0.ownBlock = some g → v2.ownBlock ≠ some g
  d12 : ∀ g, v1.ownBlock = some g → v2.ownBlock ≠ some g
theorem HV.low {base base' : Nat} {ws cs os : List Int} {v0 v1 v2 : Value} {W : World} (h : HV base ws cs os v0 v1 v2 W) (hb : base' ≤ base) : HV base' ws cs os v0 v1 v2 W :=
  ⟨owns_low h.o0 hb, owns_low h.o1 hb, owns_low h.o2 hb, h.d01, h.d02, h.d12⟩
theorem HV.below {base : Nat} {ws cs os : List Int} {v0 v1 v2 : Value} {W W' : World} (h : HV base ws cs os v0 v1 v2 W) (hb : Below W.heap.size W W') : HV base ws cs os v0 v1 v2 W' :=
  ⟨own_below h.o0 hb, own_below h.o1 hb, own_below h.o2 hb, h.d01, h.d02, h.d12⟩
theorem HV.set {base B i : Nat} {ws cs os : List Int} {v0 v1 v2 u : Value} {W : World} (h : HV base ws cs os v0 v1 v2 W) (hB : B < base) : HV base ws cs os v0 v1 v2 (W.setCell ⟨B, i, none⟩ u) :=
  ⟨ownsRow_setCell_below h.o0 (a := ⟨B, i, none⟩) hB u, ownsRow_setCell_below h.o1 (a := ⟨B, i, none⟩) hB u, ownsRow_setCell_below h.o2 (a := ⟨B, i, none⟩) hB u, h.d01, h.d02, h.d12⟩
theorem HV.nil3 (base : Nat) (W : World) : HV base [] [] [] (.slice none 0 0) (.slice none 0 0) (.slice none 0 0) W :=
  ⟨World.ownsRow_nil _ _ _ _, World.ownsRow_nil _ _ _ _, World.ownsRow_nil _ _ _ _, (fun g e => by cases e), (fun g e => by cases e), (fun g e => by cases e)⟩
/-- What lies as HouseFor begins: the sheet, the answer's variable. -/
structure HC (w : World) (W : World) : Prop where
  r : HBox W (w.heap.size + 1) (.slice none 0 0) (.slice none 0 0) (.slice none 0 0)
  f : ∀ i, W.frozen? ⟨w.heap.size + 1, i, none⟩ = false
  b : Below w.heap.size w W
theorem HC.below {w W W' : World} (h : HC w W) (hb : Below W.heap.size W W') : HC w W' :=
  ⟨h.r.below hb, fun i => (hb.frozen (p := ⟨w.heap.size + 1, i, none⟩) h.r.2.2.2).trans (h.f i), h.b.trans (hb.mono h.b.size)⟩
theorem HC.new (w : World) (o : Obj) (t : TypeId) : HC w ((w.alloc o).alloc (.cells #[.slice none 0 0, .slice none 0 0, .slice none 0 0] t)) := by
  have b0 := below_new w o
  have b1 := below_new (w.alloc o) (.cells #[.slice none 0 0, .slice none 0 0, .slice none 0 0] t)
  have h := HBox.new (w.alloc o) (.slice none 0 0) (.slice none 0 0) (.slice none 0 0) t
  rw [World.size_alloc] at h
  have hz : (w.alloc o).heap.size = w.heap.size + 1 := by simp
  refine ⟨h, fun i => ?_, b0.trans (b1.mono (by simp))⟩
  rw [← hz]; simp [go_sem]
theorem HC.res {w W : World} (h : HC w W) (u v x : Value) : Below w.heap.size w (((W.setCell ⟨w.heap.size + 1, 0, none⟩ u).setCell ⟨w.heap.size + 1, 1, none⟩ v).setCell ⟨w.heap.size + 1, 2, none⟩ x) :=
  ((h.b.setCell (p := ⟨w.heap.size + 1, 0, none⟩) (by show w.heap.size ≤ w.heap.size + 1; omega) u).setCell (p := ⟨w.heap.size + 1, 1, none⟩) (by show w.heap.size ≤ w.heap.size + 1; omega) v).setCell (p := ⟨w.heap.size + 1, 2, none⟩) (by show w.heap.size ≤ w.heap.size + 1; omega) x
theorem clone17 {a : Option Addr} {n c : Nat} {xs : List Int} {w : World} (hx : xs.length = n) (h0 : 1 ≤ n) (hn : n ≤ 1000) (ha : ARow w a xs) :
    Calls Tryz.prog 64 #[.slice a n c] w fun e w' => ∃ v, e = .returned v ∧ Below w.heap.size w w' ∧ w'.ownsRow w.heap.size 3 1 v n (ints xs) := by
  obtain ⟨b, o, rfl, hb, ha⟩ := ha.resolve_left (fun e => by rw [e] at hx; simp at hx; omega)
  refine (Tryz.slices_Clone_int b o n c xs w (by rw [hx]; exact Nat.le_refl _) (by omega) ha).mono ?_
  rintro e w3 ⟨v, rfl, own3, _, hb3⟩
  rw [show (xs.take n).map (Value.int .i64) = ints xs by rw [← hx, List.take_length]; rfl] at own3
  exact ⟨v, rfl, hb3, own3⟩
end Go.Proofs.YtlbagigghpiifabGreat
namespace Go.Proofs.YtlbagigghpiifabGreat
open Go.RowKit

theorem own_up17 {w : World} {base base' g n c : Nat} {xs : List Value} (h : w.ownsRow base 3 1 (.slice (some ⟨g, 0, none⟩) n c) n xs) (hb : base' ≤ g) : w.ownsRow base' 3 1 (.slice (some ⟨g, 0, none⟩) n c) n xs := by
  obtain ⟨h0, ⟨h1, _⟩ | ⟨g', c', cur, e, _, h2⟩⟩ := h
  · cases h1
  · cases e
    exact ⟨h0, Or.inr ⟨_, _, cur, rfl, hb, h2⟩⟩
theorem Ow.own17 {w : World} {base g n : Nat} {xs : List Int} (h : Ow w g n xs) (hb : base ≤ g) : w.ownsRow base 3 1 (.slice (some ⟨g, 0, none⟩) n n) n (ints xs) := by
  obtain ⟨_, b, _, h⟩ := h
  exact own_up17 h hb
theorem own_lt17 {w : World} {base n g : Nat} {v : Value} {xs : List Value} (h : w.ownsRow base 3 1 v n xs) (hg : v.ownBlock = some g) : base ≤ g := by
  obtain ⟨_, ⟨rfl, _⟩ | ⟨g', c', cur, rfl, h1, _⟩⟩ := h
  · cases hg
  · cases hg; exact h1
set_option maxHeartbeats 4000000 in
theorem hf_no {n' n'' r : Nat} {ok : Bool} {gs : List Gd} {ls : List (Int × Int)} {R1 R2 : List Int} {a : Option Addr} {n c X Y : Nat} {ws : List Int} {w : World} (HSP : Hid (SpAns 28 n' n'' r ok gs ls R1 R2)) (HOK : Hid (ok = false → R1 = [])) (HSH : Hid (Short gs)) (HT : Hid (TS w X Y n' n'' gs ls)) (HR : Hid (R1.length = r))
    (HN : Hid (ws.length = n)) (HA : Hid (ARow w a ws)) (HG : Hid (Hs.hfB ok R1 ws = false)) :
    Calls Tryz.prog 35 #[.agg #[.slice (some ⟨X, 0, none⟩) n' n', .slice (some ⟨Y, 0, none⟩) n'' n''], .slice a n c] w fun e w' => e = .returned (.tuple #[.agg #[.slice none 0 0, .slice none 0 0, .slice none 0 0], .bool false]) ∧ Below w.heap.size w w' := by
  have HD := hide (HC.new w (.cells #[.slice (some ⟨X, 0, none⟩) n' n', .slice (some ⟨Y, 0, none⟩) n'' n''] 38) 40)
  have HDAY := hide fun (C : List Int) (hC : C = if Sh.kindsB R1 (ws.length : Int) = true then Hs.hfC R1 ws else []) => Hs.day_hf HOK.out hC HG.out
  rw [HN.out] at HDAY
  clear HG
  cases hk : Sh.kindsB R1 (n : Int)
  · have HK := hide hk
    have HDY := hide (HDAY.out [] (by rw [hk]; rfl))
    clear hk HDAY
    go_enter Tryz.func35, Tryz.ntmps35
    go_wp2_with fail
    generalize ((w.alloc (.cells #[.slice (some ⟨X, 0, none⟩) n' n', .slice (some ⟨Y, 0, none⟩) n'' n''] 38)).alloc (.cells #[.slice none 0 0, .slice none 0 0, .slice none 0 0] 40)) = W0 at *
    refine (HSP.out _ _ _ HSH.out (HT.out.below HD.out.b)).mono ?_
    rintro _ w1 ⟨vv1, vv2, rfl, hb1, o1, o2, _⟩
    obtain ⟨a1, c1, rfl⟩ := own_sh o1
    obtain ⟨a2, c2, rfl⟩ := own_sh o2
    have bn := below_new w1 (.cells #[.slice a1 r c1, .slice a2 r c2] 61)
    obtain ⟨a1', c1', e1, hr1⟩ := own_any7 HR.out (own_below o1 bn)
    cases e1
    have HR1 := hide hr1
    have PB := hide (PBox.new w1 (.slice a1 r c1) (.slice a2 r c2) 61)
    have HD1 := hide ((HD.out.below hb1).below bn)
    obtain ⟨p0, p1, _⟩ := PB.out
    clear hb1 o1 o2 bn hr1
    go_wp2_with fail
    generalize w1.alloc (.cells #[.slice a1 r c1, .slice a2 r c2] 61) = W1 at *
    refine (so_no HR1 HR HK).mono ?_
    rintro _ w2 ⟨rfl, hb2⟩
    have HD2 := hide (HD1.out.below hb2)
    have HR2 := hide (HR1.out.below hb2)
    obtain ⟨p0, p1, _⟩ := PB.out.below hb2
    clear hb2
    go_wp2_with fail
    refine (sf_no HR (hide rfl) HN HR2 (hide (Or.inl rfl)) (hide (HA.out.below HD2.out.b)) HDY).mono ?_
    rintro _ w3 ⟨rfl, hb3⟩
    have HD3 := HD2.out.below hb3
    have x0 := HD3.r.1
    have x1 := HD3.r.2.1
    have x2 := HD3.r.2.2.1
    have g0 := HD3.f 0
    have g1 := HD3.f 1
    have g2 := HD3.f 2
    clear hb3 p0 p1
    go_wp2_with fail
    exact bodyPost_ret (v := .tuple #[.agg #[.slice none 0 0, .slice none 0 0, .slice none 0 0], .bool false]) (by simp [results, Tryz.results35, go_sem, x0, x1, x2]) rfl ⟨rfl, HD3.res _ _ _⟩
  · have HK := hide hk
    have HDY := hide (HDAY.out (shareL R1 (n : Int)) (by rw [hk, if_pos rfl, Hs.hfC, HN.out]))
    have hsl : Hid ((shareL R1 (n : Int)).length = r) := hide ((shareL_len _ _).trans HR.out)
    clear hk HDAY
    go_enter Tryz.func35, Tryz.ntmps35
    go_wp2_with fail
    generalize ((w.alloc (.cells #[.slice (some ⟨X, 0, none⟩) n' n', .slice (some ⟨Y, 0, none⟩) n'' n''] 38)).alloc (.cells #[.slice none 0 0, .slice none 0 0, .slice none 0 0] 40)) = W0 at *
    refine (HSP.out _ _ _ HSH.out (HT.out.below HD.out.b)).mono ?_
    rintro _ w1 ⟨vv1, vv2, rfl, hb1, o1, o2, _⟩
    obtain ⟨a1, c1, rfl⟩ := own_sh o1
    obtain ⟨a2, c2, rfl⟩ := own_sh o2
    have bn := below_new w1 (.cells #[.slice a1 r c1, .slice a2 r c2] 61)
    obtain ⟨a1', c1', e1, hr1⟩ := own_any7 HR.out (own_below o1 bn)
    cases e1
    have HR1 := hide hr1
    have PB := hide (PBox.new w1 (.slice a1 r c1) (.slice a2 r c2) 61)
    have HD1 := hide ((HD.out.below hb1).below bn)
    obtain ⟨p0, p1, _⟩ := PB.out
    clear hb1 o1 o2 bn hr1
    go_wp2_with fail
    generalize w1.alloc (.cells #[.slice a1 r c1, .slice a2 r c2] 61) = W1 at *
    refine (so_yes HR1 HR HK).mono ?_
    rintro _ w2 ⟨gq, rfl, hb2, oc⟩
    obtain ⟨aq, cq, e2, hr2⟩ := own_any7 hsl.out oc
    cases e2
    have HC2 := hide hr2
    have HD2 := hide (HD1.out.below hb2)
    have HR2 := hide (HR1.out.below hb2)
    obtain ⟨p0, p1, _⟩ := PB.out.below hb2
    clear hb2 oc hr2
    go_wp2_with fail
    refine (sf_no HR hsl HN HR2 HC2 (hide (HA.out.below HD2.out.b)) HDY).mono ?_
    rintro _ w3 ⟨rfl, hb3⟩
    have HD3 := HD2.out.below hb3
    have x0 := HD3.r.1
    have x1 := HD3.r.2.1
    have x2 := HD3.r.2.2.1
    have g0 := HD3.f 0
    have g1 := HD3.f 1
    have g2 := HD3.f 2
    clear hb3 p0 p1
    go_wp2_with fail
    exact bodyPost_ret (v := .tuple #[.agg #[.slice none 0 0, .slice none 0 0, .slice none 0 0], .bool false]) (by simp [results, Tryz.results35, go_sem, x0, x1, x2]) rfl ⟨rfl, HD3.res _ _ _⟩
/-- What HouseFor answers where it answers. -/
def HAns (w : World) (ws cs os : List Int) (e : Ending) (w' : World) : Prop :=
  ∃ v0 v1 v2, e = .returned (.tuple #[.agg #[v0, v1, v2], .bool true]) ∧ Below w.heap.size w w' ∧ HV w.heap.size ws cs os v0 v1 v2 w'
set_option maxHeartbeats 4000000 in
theorem hf_yes17 {n' n'' r : Nat} {ok : Bool} {gs : List Gd} {ls : List (Int × Int)} {R1 R2 : List Int} {a : Option Addr} {n c X Y : Nat} {ws : List Int} {w : World} (HSP : Hid (SpAns 28 n' n'' r ok gs ls R1 R2)) (HSH : Hid (Short gs)) (HT : Hid (TS w X Y n' n'' gs ls)) (HR : Hid (R1.length = r))
    (HN : Hid (ws.length = n)) (HA : Hid (ARow w a ws)) (HG : Hid (Hs.hfB ok R1 ws = true)) :
    Calls Tryz.prog 35 #[.agg #[.slice (some ⟨X, 0, none⟩) n' n', .slice (some ⟨Y, 0, none⟩) n'' n''], .slice a n c] w fun e w' => HAns w ws (Hs.hfC R1 ws) (Hs.ownL R1 (Hs.hfC R1 ws) ws) e w' := by
  have HD := hide (HC.new w (.cells #[.slice (some ⟨X, 0, none⟩) n' n', .slice (some ⟨Y, 0, none⟩) n'' n''] 38) 40)
  have HDY := hide (Hs.hf_day HG.out)
  have hk := Hs.hf_kinds HG.out
  obtain ⟨_, hfl, hle, hle10, _⟩ := Hs.hf_yes HG.out
  obtain ⟨f1, f2, _⟩ := Sh.flowB_yes hfl
  have hn1 : 1 ≤ n := by have := HN.out; omega
  have hn10 : n ≤ 1000 := by have := HN.out; omega
  rw [HN.out] at hk
  have HK := hide hk
  have HCL := hide fun (W : World) (h : ARow W a ws) => clone17 (c := c) HN.out hn1 hn10 h
  have HCE := hide (show Hs.hfC R1 ws = shareL R1 (n : Int) by rw [Hs.hfC, HN.out])
  have hsl : Hid ((Hs.hfC R1 ws).length = r) := hide ((Hs.hfC_len _ _).trans HR.out)
  have hol : Hid ((Hs.ownL R1 (Hs.hfC R1 ws) ws).length = n) := hide ((Hs.ownL_len _ _ _).trans HN.out)
  obtain ⟨C, hC⟩ : ∃ C, C = Hs.hfC R1 ws := ⟨_, rfl⟩
  rw [← hC] at HDY HCE hsl hol ⊢
  obtain ⟨O, hO⟩ : ∃ O, O = Hs.ownL R1 C ws := ⟨_, rfl⟩
  rw [← hO] at hol ⊢
  have HSF := hide fun (W : World) (p b : Option Addr) (d f : Nat) (h1 : ARow W p R1) (h2 : ARow W b C) (h3 : ARow W a ws) => sf_yes (c := c) (d := d) (f := f) HR hsl HN (hide h1) (hide h2) (hide h3) HDY
  rw [← hO] at HSF
  clear hk hfl hle hle10 f1 f2 hC hO HG HDY
  go_enter Tryz.func35, Tryz.ntmps35
  go_wp2_with fail
  generalize ((w.alloc (.cells #[.slice (some ⟨X, 0, none⟩) n' n', .slice (some ⟨Y, 0, none⟩) n'' n''] 38)).alloc (.cells #[.slice none 0 0, .slice none 0 0, .slice none 0 0] 40)) = W0 at *
  refine (HSP.out _ _ _ HSH.out (HT.out.below HD.out.b)).mono ?_
  rintro _ w1 ⟨vv1, vv2, rfl, hb1, o1, o2, _⟩
  obtain ⟨a1, c1, rfl⟩ := own_sh o1
  obtain ⟨a2, c2, rfl⟩ := own_sh o2
  have bn := below_new w1 (.cells #[.slice a1 r c1, .slice a2 r c2] 61)
  obtain ⟨a1', c1', e1, hr1⟩ := own_any7 HR.out (own_below o1 bn)
  cases e1
  have HR1 := hide hr1
  have PB := hide (PBox.new w1 (.slice a1 r c1) (.slice a2 r c2) 61)
  have HD1 := hide ((HD.out.below hb1).below bn)
  obtain ⟨p0, p1, _⟩ := PB.out
  clear hb1 o1 o2 bn hr1
  go_wp2_with fail
  generalize w1.alloc (.cells #[.slice a1 r c1, .slice a2 r c2] 61) = W1 at *
  refine (so_yes HR1 HR HK).mono ?_
  rintro _ w2 ⟨gq, rfl, hb2, oc⟩
  rw [← HCE.out] at oc
  obtain ⟨aq, cq, e2, hr2⟩ := own_any7 hsl.out oc
  cases e2
  have HC2 := hide hr2
  have HD2 := hide (HD1.out.below hb2)
  have HR2 := hide (HR1.out.below hb2)
  have HO2 := hide (owns_low (base' := w.heap.size + 2) oc (Nat.succ_le_of_lt HD1.out.r.2.2.2))
  have hq : Hid (gq < w2.heap.size) := hide (own_hi oc rfl)
  obtain ⟨p0, p1, _⟩ := PB.out.below hb2
  clear hb2 oc hr2
  go_wp2_with fail
  refine (HSF.out _ _ _ _ _ HR2.out HC2.out (HA.out.below HD2.out.b)).mono ?_
  rintro _ w3 ⟨go, rfl, hb3, hgo, oo⟩
  have HD3 := hide (HD2.out.below hb3)
  have HO3 := hide (own_below HO2.out hb3)
  have HW3 := hide (oo.own17 (base := w.heap.size + 2) (Nat.le_trans (Nat.succ_le_of_lt HD2.out.r.2.2.2) hgo))
  have ho : Hid (go < w3.heap.size) := hide oo.1
  have hne : Hid (gq ≠ go) := hide (by have := hq.out; omega)
  clear hb3 oo hgo p0 p1
  go_wp2_with fail
  refine (HCL.out _ (HA.out.below HD3.out.b)).mono ?_
  rintro _ w4 ⟨v0, rfl, hb4, oz⟩
  have HD4 := HD3.out.below hb4
  obtain ⟨a4, c4, rfl⟩ := own_sh oz
  have HV4 : Hid (HV (w.heap.size + 2) ws C O (.slice a4 n c4) (.slice (some ⟨gq, 0, none⟩) r r) (.slice (some ⟨go, 0, none⟩) n n) w4) := hide (by
    have h1 := hq.out
    have h2 := HD3.out.b.size
    refine ⟨?_, ?_, ?_, ?_, ?_, ?_⟩
    · rw [HN.out]; exact owns_low oz (Nat.succ_le_of_lt HD3.out.r.2.2.2)
    · rw [hsl.out]; exact own_below HO3.out hb4
    · rw [hol.out]; exact own_below HW3.out hb4
    · intro g hg e; cases e; have : w3.heap.size ≤ gq := own_lt17 oz hg; have : gq < w3.heap.size := own_hi HO3.out rfl; omega
    · intro g hg e; cases e; have : w3.heap.size ≤ go := own_lt17 oz hg; have := ho.out; omega
    · intro g hg e; cases hg; cases e; exact hne.out rfl)
  have x0 := HD4.r.1
  have x1 := HD4.r.2.1
  have x2 := HD4.r.2.2.1
  have g0 := HD4.f 0
  have g1 := HD4.f 1
  have g2 := HD4.f 2
  clear hb4 oz
  go_wp2_with fail
  refine bodyPost_ret (v := .tuple #[.agg #[.slice a4 n c4, .slice (some ⟨gq, 0, none⟩) r r, .slice (some ⟨go, 0, none⟩) n n], .bool true]) (by simp [results, Tryz.results35, go_sem, x0, x1, x2]) rfl ⟨_, _, _, rfl, HD4.res _ _ _, ?_⟩
  exact (((HV4.out.set (Nat.lt_succ_self _)).set (Nat.lt_succ_self _)).set (Nat.lt_succ_self _)).low (Nat.le_add_right _ _)
end Go.Proofs.YtlbagigghpiifabGreat
namespace Go.Proofs.YtlbagigghpiifabGreat
namespace Hs
/-- At how many of the first places two lists differ. -/
def unl (a b : List Int) : Nat → Nat
  | 0 => 0
  | k + 1 => if a.getD k 0 = b.getD k 0 then unl a b k else unl a b k + 1
theorem unl_le (a b : List Int) : ∀ k, unl a b k ≤ k
  | 0 => Nat.le_refl _
  | k + 1 => by unfold unl; have := unl_le a b k; split <;> omega
theorem unl_symm (a b : List Int) : ∀ k, unl a b k = unl b a k
  | 0 => rfl
  | k + 1 => by unfold unl; rw [unl_symm a b k]; simp [eq_comm]
end Hs
open Go.RowKit
set_option maxHeartbeats 1000000 in
theorem mu_any {a b : Option Addr} {n c d : Nat} {xs ys : List Int} {w : World} (hx : Hid (xs.length = n)) (hy : Hid (ys.length = n)) (hn : n ≤ 1000) (ha : Hid (ARow w a xs)) (hb : Hid (ARow w b ys)) :
    Calls Tryz.prog 36 #[.slice a n c, .slice b n d] w fun e w' => e = .returned (.int .i64 (Hs.unl xs ys n)) ∧ w' = w := by
  have HB := hide (Hs.unl_le xs ys)
  go_enter Tryz.func36, Tryz.ntmps36
  go_wp2_with fail
  go_loop [5, 6, 7, 10] (fun s5 _ _ s => ∃ (k m : Nat), s = .int .i64 k ∧ s5 = .int .i64 m ∧ k ≤ n ∧ Hid (m = Hs.unl xs ys k)) (fun _ _ _ s => n - (intOf s).toNat)
  case atStart => exact ⟨0, 0, rfl, rfl, Nat.zero_le _, hide rfl⟩
  case round =>
    obtain ⟨k, m, rfl, rfl, hk, HM⟩ := hrel
    by_cases hlt : k < n
    · obtain ⟨b1, o1, rfl, r1⟩ := ha.out.at (i := k) (by rw [hx.out]; exact hlt)
      obtain ⟨b2, o2, rfl, r2⟩ := hb.out.at (i := k) (by rw [hy.out]; exact hlt)
      have j0 : (0 : Int) ≤ (k : Int) := by omega
      have j1 : (k : Int) < (n : Int) := by omega
      have hm := HB.out k
      have hM := HM.out
      have HN : Hid (Hs.unl xs ys (k + 1) = if xs.getD k 0 = ys.getD k 0 then Hs.unl xs ys k else Hs.unl xs ys k + 1) := hide rfl
      generalize xs.getD k 0 = x at *
      generalize ys.getD k 0 = y at *
      rw [← hM] at hm
      by_cases he : x = y
      · have he' : (x != y) = false := by simp [he]
        have HN' : Hid (m = Hs.unl xs ys (k + 1)) := hide (by rw [HN.out, if_pos he]; exact hM)
        clear hM HN HM
        go_wp2_with fail
        go_round
        case rel => exact ⟨k + 1, m, by go_num, rfl, by omega, HN'⟩
        case measure => simp only [intOf]; omega
      · have he' : (x != y) = true := by simp [he]
        have HN' : Hid (m + 1 = Hs.unl xs ys (k + 1)) := hide (by rw [HN.out, if_neg he, ← hM])
        clear hM HN HM
        go_wp2_with fail
        go_round
        case rel => exact ⟨k + 1, m + 1, by go_num, by go_num, by omega, HN'⟩
        case measure => simp only [intOf]; omega
    · have hke : k = n := by omega
      subst hke
      have hM := HM.out
      subst hM
      go_wp2_with fail
      go_ret
      exact ⟨rfl, rfl⟩
end Go.Proofs.YtlbagigghpiifabGreat
namespace Go.Proofs.YtlbagigghpiifabGreat
open Go.RowKit

/-- What lies as RenewHouse begins: the sheet, the house, the answer's variable. -/
structure RC (w : World) (s0 s1 va vb vc : Value) (W : World) : Prop where
  s : PBox W w.heap.size s0 s1
  h : HBox W (w.heap.size + 1) va vb vc
  r : HBox W (w.heap.size + 2) (.slice none 0 0) (.slice none 0 0) (.slice none 0 0)
  f : ∀ i, W.frozen? ⟨w.heap.size + 2, i, none⟩ = false
  b : Below w.heap.size w W
theorem RC.below {w W W' : World} {s0 s1 va vb vc : Value} (h : RC w s0 s1 va vb vc W) (hb : Below W.heap.size W W') : RC w s0 s1 va vb vc W' :=
  ⟨h.s.below hb, h.h.below hb, h.r.below hb, fun i => (hb.frozen (p := ⟨w.heap.size + 2, i, none⟩) h.r.2.2.2).trans (h.f i), h.b.trans (hb.mono h.b.size)⟩
theorem RC.new (w : World) (s0 s1 va vb vc : Value) (t u : TypeId) : RC w s0 s1 va vb vc (((w.alloc (.cells #[s0, s1] t)).alloc (.cells #[va, vb, vc] u)).alloc (.cells #[.slice none 0 0, .slice none 0 0, .slice none 0 0] u)) := by
  have b0 := below_new w (.cells #[s0, s1] t)
  have b1 := below_new (w.alloc (.cells #[s0, s1] t)) (.cells #[va, vb, vc] u)
  have b2 := below_new ((w.alloc (.cells #[s0, s1] t)).alloc (.cells #[va, vb, vc] u)) (.cells #[.slice none 0 0, .slice none 0 0, .slice none 0 0] u)
  have h1 := (HBox.new (w.alloc (.cells #[s0, s1] t)) va vb vc u).below b2
  have h2 := HBox.new ((w.alloc (.cells #[s0, s1] t)).alloc (.cells #[va, vb, vc] u)) (.slice none 0 0) (.slice none 0 0) (.slice none 0 0) u
  have hz : ((w.alloc (.cells #[s0, s1] t)).alloc (.cells #[va, vb, vc] u)).heap.size = w.heap.size + 2 := by simp
  rw [World.size_alloc] at h1
  rw [hz] at h2
  refine ⟨((PBox.new w s0 s1 t).below b1).below b2, h1, h2, fun i => ?_, b0.trans ((b1.trans (b2.mono b1.size)).mono b0.size)⟩
  rw [← hz]; simp [go_sem]
theorem RC.res {w W : World} {s0 s1 va vb vc : Value} (h : RC w s0 s1 va vb vc W) (u v x : Value) : Below w.heap.size w (((W.setCell ⟨w.heap.size + 2, 0, none⟩ u).setCell ⟨w.heap.size + 2, 1, none⟩ v).setCell ⟨w.heap.size + 2, 2, none⟩ x) :=
  ((h.b.setCell (p := ⟨w.heap.size + 2, 0, none⟩) (by show w.heap.size ≤ w.heap.size + 2; omega) u).setCell (p := ⟨w.heap.size + 2, 1, none⟩) (by show w.heap.size ≤ w.heap.size + 2; omega) v).setCell (p := ⟨w.heap.size + 2, 2, none⟩) (by show w.heap.size ≤ w.heap.size + 2; omega) x
/-- What RenewHouse answers where it answers. -/
def RAns (w : World) (ws cs os : List Int) (m : Nat) (e : Ending) (w' : World) : Prop :=
  ∃ v0 v1 v2, e = .returned (.tuple #[.agg #[v0, v1, v2], .int .i64 m, .bool true]) ∧ Below w.heap.size w w' ∧ HV w.heap.size ws cs os v0 v1 v2 w'
/-- The bound where RenewHouse answers. -/
def rnB (ok : Bool) (R1 ws cs os : List Int) (n' : Nat) : Bool := Hs.houseB ws cs os && (decide (n' = cs.length) && Hs.hfB ok R1 ws)
set_option maxHeartbeats 4000000 in
theorem rn_no {n' n'' r : Nat} {ok : Bool} {gs : List Gd} {ls : List (Int × Int)} {R1 R2 : List Int} {a b o : Option Addr} {n m q c d e X Y : Nat} {ws cs os : List Int} {w : World} (HSP : Hid (SpAns 28 n' n'' r ok gs ls R1 R2)) (HOK : Hid (ok = false → R1 = [])) (HSH : Hid (Short gs)) (HT : Hid (TS w X Y n' n'' gs ls)) (HR : Hid (R1.length = r))
    (HN : Hid (ws.length = n)) (HM : Hid (cs.length = m)) (HQ : Hid (os.length = q)) (hq : q ≤ 1048576) (HA : Hid (ARow w a ws)) (HB : Hid (ARow w b cs)) (HO : Hid (ARow w o os)) (HG : Hid (rnB ok R1 ws cs os n' = false)) :
    Calls Tryz.prog 15 #[.agg #[.slice (some ⟨X, 0, none⟩) n' n', .slice (some ⟨Y, 0, none⟩) n'' n''], .agg #[.slice a n c, .slice b m d, .slice o q e]] w fun z w' => z = .returned (.tuple #[.agg #[.slice none 0 0, .slice none 0 0, .slice none 0 0], .int .i64 0, .bool false]) ∧ Below w.heap.size w w' := by
  have HD := hide (RC.new w (.slice (some ⟨X, 0, none⟩) n' n') (.slice (some ⟨Y, 0, none⟩) n'' n'') (.slice a n c) (.slice b m d) (.slice o q e) 38 40)
  have HEND : Hid (∀ W, RC w (.slice (some ⟨X, 0, none⟩) n' n') (.slice (some ⟨Y, 0, none⟩) n'' n'') (.slice a n c) (.slice b m d) (.slice o q e) W → W.cell? ⟨w.heap.size + 2, 0, none⟩ = some (.slice none 0 0) ∧ W.cell? ⟨w.heap.size + 2, 1, none⟩ = some (.slice none 0 0) ∧ W.cell? ⟨w.heap.size + 2, 2, none⟩ = some (.slice none 0 0) ∧ W.frozen? ⟨w.heap.size + 2, 0, none⟩ = false ∧ W.frozen? ⟨w.heap.size + 2, 1, none⟩ = false ∧ W.frozen? ⟨w.heap.size + 2, 2, none⟩ = false) := hide fun W h => ⟨h.r.1, h.r.2.1, h.r.2.2.1, h.f 0, h.f 1, h.f 2⟩
  have hG := HG.out
  unfold rnB at hG
  rw [HM.out] at hG
  clear HG
  cases hh : Hs.houseB ws cs os
  · have HH := hide hh
    clear hh hG
    go_enter Tryz.func15, Tryz.ntmps15
    go_upto_region 1 with fail
    generalize (((w.alloc (.cells #[.slice (some ⟨X, 0, none⟩) n' n', .slice (some ⟨Y, 0, none⟩) n'' n''] 38)).alloc (.cells #[.slice a n c, .slice b m d, .slice o q e] 40)).alloc (.cells #[.slice none 0 0, .slice none 0 0, .slice none 0 0] 40)) = W0 at *
    obtain ⟨x0, x1, x2, _⟩ := HD.out.h
    obtain ⟨s0, s1, _⟩ := HD.out.s
    go_wp2_with fail
    refine (gh17_eq HN HM HQ hq (hide (HA.out.below HD.out.b)) (hide (HB.out.below HD.out.b)) (hide (HO.out.below HD.out.b)) HH).mono ?_
    rintro _ w1 ⟨rfl, hb1⟩
    have HD1 := HD.out.below hb1
    obtain ⟨y0, y1, y2, g0, g1, g2⟩ := HEND.out _ HD1
    clear hb1 x0 x1 x2 s0 s1
    go_wp2_with fail
    exact bodyPost_ret (v := .tuple #[.agg #[.slice none 0 0, .slice none 0 0, .slice none 0 0], .int .i64 0, .bool false]) (by simp [results, Tryz.results15, go_sem, y0, y1, y2]) rfl ⟨rfl, HD1.res _ _ _⟩
  · have HH := hide hh
    rw [hh, Bool.true_and] at hG
    clear hh
    by_cases hm : n' = m
    · have HF : Hid (Hs.hfB ok R1 ws = false) := hide (by rw [decide_eq_true hm, Bool.true_and] at hG; exact hG)
      subst hm
      clear hG
      go_enter Tryz.func15, Tryz.ntmps15
      go_upto_region 1 with fail
      generalize (((w.alloc (.cells #[.slice (some ⟨X, 0, none⟩) n' n', .slice (some ⟨Y, 0, none⟩) n'' n''] 38)).alloc (.cells #[.slice a n c, .slice b n' d, .slice o q e] 40)).alloc (.cells #[.slice none 0 0, .slice none 0 0, .slice none 0 0] 40)) = W0 at *
      obtain ⟨x0, x1, x2, _⟩ := HD.out.h
      obtain ⟨s0, s1, _⟩ := HD.out.s
      go_wp2_with fail
      refine (gh17_eq HN HM HQ hq (hide (HA.out.below HD.out.b)) (hide (HB.out.below HD.out.b)) (hide (HO.out.below HD.out.b)) HH).mono ?_
      rintro _ w1 ⟨rfl, hb1⟩
      have HD1 := hide (HD.out.below hb1)
      clear hb1 x0 x1 x2 s0 s1
      obtain ⟨x0, x1, x2, _⟩ := HD1.out.h
      obtain ⟨s0, s1, _⟩ := HD1.out.s
      go_wp2_with fail
      refine (hf_no HSP HOK HSH (hide (HT.out.below HD1.out.b)) HR HN (hide (HA.out.below HD1.out.b)) HF).mono ?_
      rintro _ w2 ⟨rfl, hb2⟩
      have bn2 := below_new w2 (.cells #[.slice none 0 0, .slice none 0 0, .slice none 0 0] 40)
      have HD2 := (HD1.out.below hb2).below bn2
      obtain ⟨y0, y1, y2, g0, g1, g2⟩ := HEND.out _ HD2
      clear hb2 bn2 x0 x1 x2 s0 s1
      go_upto_region 4 with fail
      generalize w2.alloc (.cells #[.slice none 0 0, .slice none 0 0, .slice none 0 0] 40) = W2 at *
      go_wp2_with fail
      exact bodyPost_ret (v := .tuple #[.agg #[.slice none 0 0, .slice none 0 0, .slice none 0 0], .int .i64 0, .bool false]) (by simp [results, Tryz.results15, go_sem, y0, y1, y2]) rfl ⟨rfl, HD2.res _ _ _⟩
    · have hm' : ((n' : Int) != (m : Int)) = true := by simp; omega
      clear hG
      go_enter Tryz.func15, Tryz.ntmps15
      go_upto_region 1 with fail
      generalize (((w.alloc (.cells #[.slice (some ⟨X, 0, none⟩) n' n', .slice (some ⟨Y, 0, none⟩) n'' n''] 38)).alloc (.cells #[.slice a n c, .slice b m d, .slice o q e] 40)).alloc (.cells #[.slice none 0 0, .slice none 0 0, .slice none 0 0] 40)) = W0 at *
      obtain ⟨x0, x1, x2, _⟩ := HD.out.h
      obtain ⟨s0, s1, _⟩ := HD.out.s
      go_wp2_with fail
      refine (gh17_eq HN HM HQ hq (hide (HA.out.below HD.out.b)) (hide (HB.out.below HD.out.b)) (hide (HO.out.below HD.out.b)) HH).mono ?_
      rintro _ w1 ⟨rfl, hb1⟩
      have HD1 := hide (HD.out.below hb1)
      clear hb1 x0 x1 x2 s0 s1
      obtain ⟨x0, x1, x2, _⟩ := HD1.out.h
      obtain ⟨s0, s1, _⟩ := HD1.out.s
      obtain ⟨y0, y1, y2, g0, g1, g2⟩ := HEND.out _ HD1.out
      go_wp2_with fail
      exact bodyPost_ret (v := .tuple #[.agg #[.slice none 0 0, .slice none 0 0, .slice none 0 0], .int .i64 0, .bool false]) (by simp [results, Tryz.results15, go_sem, y0, y1, y2]) rfl ⟨rfl, HD1.out.res _ _ _⟩
end Go.Proofs.YtlbagigghpiifabGreat
namespace Go.Proofs.YtlbagigghpiifabGreat
open Go.RowKit

/-- What lies while a house is copied: the one that is handed in, the answer's variable, the one that is made. -/
structure TH (w : World) (va vb vc o0 o1 o2 : Value) (W : World) : Prop where
  a : HBox W w.heap.size va vb vc
  r : HBox W (w.heap.size + 1) (.slice none 0 0) (.slice none 0 0) (.slice none 0 0)
  o : HBox W (w.heap.size + 1 + 1) o0 o1 o2
  fr : ∀ i, W.frozen? ⟨w.heap.size + 1, i, none⟩ = false
  fo : ∀ i, W.frozen? ⟨w.heap.size + 1 + 1, i, none⟩ = false
  b : Below w.heap.size w W
theorem TH.below {w W W' : World} {va vb vc o0 o1 o2 : Value} (h : TH w va vb vc o0 o1 o2 W) (hb : Below W.heap.size W W') : TH w va vb vc o0 o1 o2 W' :=
  ⟨h.a.below hb, h.r.below hb, h.o.below hb, fun i => (hb.frozen (p := ⟨w.heap.size + 1, i, none⟩) h.r.2.2.2).trans (h.fr i), fun i => (hb.frozen (p := ⟨w.heap.size + 1 + 1, i, none⟩) h.o.2.2.2).trans (h.fo i), h.b.trans (hb.mono h.b.size)⟩
theorem hbox_far {W : World} {B C i : Nat} {v0 v1 v2 v : Value} (h : HBox W B v0 v1 v2) (hne : B ≠ C) : HBox (W.setCell ⟨C, i, none⟩ v) B v0 v1 v2 := by
  have k : ∀ j, (W.setCell ⟨C, i, none⟩ v).cell? ⟨B, j, none⟩ = W.cell? ⟨B, j, none⟩ := fun j => World.cell?_setCell_other _ _ _ _ (fun e => hne (by injection e with e1; exact e1.symm))
  exact ⟨(k 0).trans h.1, (k 1).trans h.2.1, (k 2).trans h.2.2.1, by simpa using h.2.2.2⟩
theorem TH.set0 {w W : World} {va vb vc o0 o1 o2 : Value} (h : TH w va vb vc o0 o1 o2 W) (v : Value) : TH w va vb vc v o1 o2 (W.setCell ⟨w.heap.size + 1 + 1, 0, none⟩ v) :=
  ⟨hbox_far h.a (by omega), hbox_far h.r (by omega), ⟨World.cell?_setCell_same _ _ _ h.o.1, (World.cell?_setCell_other _ _ _ _ (by simp)).trans h.o.2.1, (World.cell?_setCell_other _ _ _ _ (by simp)).trans h.o.2.2.1, by simpa using h.o.2.2.2⟩, fun i => (World.frozen?_setCell ..).trans (h.fr i), fun i => (World.frozen?_setCell ..).trans (h.fo i), h.b.setCell (by show w.heap.size ≤ w.heap.size + 1 + 1; omega) v⟩
theorem TH.set1 {w W : World} {va vb vc o0 o1 o2 : Value} (h : TH w va vb vc o0 o1 o2 W) (v : Value) : TH w va vb vc o0 v o2 (W.setCell ⟨w.heap.size + 1 + 1, 1, none⟩ v) :=
  ⟨hbox_far h.a (by omega), hbox_far h.r (by omega), ⟨(World.cell?_setCell_other _ _ _ _ (by simp)).trans h.o.1, World.cell?_setCell_same _ _ _ h.o.2.1, (World.cell?_setCell_other _ _ _ _ (by simp)).trans h.o.2.2.1, by simpa using h.o.2.2.2⟩, fun i => (World.frozen?_setCell ..).trans (h.fr i), fun i => (World.frozen?_setCell ..).trans (h.fo i), h.b.setCell (by show w.heap.size ≤ w.heap.size + 1 + 1; omega) v⟩
theorem TH.new (w : World) (va vb vc : Value) (t u : TypeId) : TH w va vb vc (.slice none 0 0) (.slice none 0 0) (.slice none 0 0) (((w.alloc (.cells #[va, vb, vc] t)).alloc (.cells #[.slice none 0 0, .slice none 0 0, .slice none 0 0] u)).alloc (.cells #[.slice none 0 0, .slice none 0 0, .slice none 0 0] u)) := by
  have b0 := below_new w (.cells #[va, vb, vc] t)
  have b1 := below_new (w.alloc (.cells #[va, vb, vc] t)) (.cells #[.slice none 0 0, .slice none 0 0, .slice none 0 0] u)
  have b2 := below_new ((w.alloc (.cells #[va, vb, vc] t)).alloc (.cells #[.slice none 0 0, .slice none 0 0, .slice none 0 0] u)) (.cells #[.slice none 0 0, .slice none 0 0, .slice none 0 0] u)
  have h0 := ((HBox.new w va vb vc t).below b1).below b2
  have h1 := (HBox.new (w.alloc (.cells #[va, vb, vc] t)) (.slice none 0 0) (.slice none 0 0) (.slice none 0 0) u).below b2
  have h2 := HBox.new ((w.alloc (.cells #[va, vb, vc] t)).alloc (.cells #[.slice none 0 0, .slice none 0 0, .slice none 0 0] u)) (.slice none 0 0) (.slice none 0 0) (.slice none 0 0) u
  rw [World.size_alloc] at h1
  rw [World.size_alloc, World.size_alloc] at h2
  refine ⟨h0, h1, h2, fun i => by simp [go_sem], fun i => by simp [go_sem], b0.trans ((b1.trans (b2.mono (by simp))).mono (by simp))⟩
set_option maxHeartbeats 4000000 in
theorem toH_any {a b o : Option Addr} {n m q c d e' : Nat} {ws cs os : List Int} {w : World} (HN : Hid (ws.length = n)) (HM : Hid (cs.length = m)) (HQ : Hid (os.length = q)) (h1 : n ≤ 1048576) (h2 : m ≤ 1048576) (h3 : q ≤ 1048576) (HA : Hid (ARow w a ws)) (HB : Hid (ARow w b cs)) (HO : Hid (ARow w o os)) :
    Calls Tryz.prog 9 #[.agg #[.slice a n c, .slice b m d, .slice o q e']] w fun e w' => ∃ x y z, e = .returned (.agg #[.slice (some ⟨x, 0, none⟩) n n, .slice (some ⟨y, 0, none⟩) m m, .slice (some ⟨z, 0, none⟩) q q]) ∧ Below w.heap.size w w' ∧ (w.heap.size ≤ x ∧ x < y ∧ y < z ∧ z < w'.heap.size) ∧
      w'.ownsRow w.heap.size 3 1 (.slice (some ⟨x, 0, none⟩) n n) n (ints ws) ∧ w'.ownsRow w.heap.size 3 1 (.slice (some ⟨y, 0, none⟩) m m) m (ints cs) ∧ w'.ownsRow w.heap.size 3 1 (.slice (some ⟨z, 0, none⟩) q q) q (ints os) := by
  have HT := hide (TH.new w (.slice a n c) (.slice b m d) (.slice o q e') 28 40)
  go_enter Tryz.func9, Tryz.ntmps9
  go_wp2_with fail
  have hz : (((w.alloc (.cells #[.slice a n c, .slice b m d, .slice o q e'] 28)).alloc (.cells #[.slice none 0 0, .slice none 0 0, .slice none 0 0] 40)).alloc (.cells #[.slice none 0 0, .slice none 0 0, .slice none 0 0] 40)).heap.size = w.heap.size + 3 := by simp
  generalize (((w.alloc (.cells #[.slice a n c, .slice b m d, .slice o q e'] 28)).alloc (.cells #[.slice none 0 0, .slice none 0 0, .slice none 0 0] 40)).alloc (.cells #[.slice none 0 0, .slice none 0 0, .slice none 0 0] 40)) = W0 at *
  have HZ0 := hide hz
  clear hz
  refine (toI_own a c n ws _ HN.out h1 (HA.out.below HT.out.b)).mono ?_
  rintro _ w1 ⟨rfl, hb1, hz1, own1⟩
  have HT1 := hide (HT.out.below hb1)
  obtain ⟨a0, a1, a2, _⟩ := HT1.out.a
  obtain ⟨o0, o1, o2, _⟩ := HT1.out.o
  have fo := HT1.out.fo
  have HO1 := hide own1
  have HZ1 := hide hz1
  have HS1 := hide hb1.size
  clear own1 hb1 hz1 HT
  go_wp2_with fail
  have HT2 := hide (HT1.out.set0 (.slice (some ⟨W0.heap.size, 0, none⟩) n n))
  have z0 := HZ0.out
  have HO1a := hide (ownsRow_setCell_below HO1.out (a := ⟨w.heap.size + 1 + 1, 0, none⟩) (by show w.heap.size + 1 + 1 < _; omega) (.slice (some ⟨W0.heap.size, 0, none⟩) n n))
  have hs2 : (w1.setCell ⟨w.heap.size + 1 + 1, 0, none⟩ (.slice (some ⟨W0.heap.size, 0, none⟩) n n)).heap.size = w1.heap.size := by simp
  clear HT1 HO1 a0 a1 a2 o0 o1 o2 fo
  generalize w1.setCell ⟨w.heap.size + 1 + 1, 0, none⟩ (.slice (some ⟨W0.heap.size, 0, none⟩) n n) = W2 at *
  have HS2 := hide hs2
  clear hs2 z0
  refine (toI_own b d m cs _ HM.out h2 (HB.out.below HT2.out.b)).mono ?_
  rintro _ w3 ⟨rfl, hb3, hz3, own3⟩
  have HT3 := hide (HT2.out.below hb3)
  obtain ⟨a0, a1, a2, _⟩ := HT3.out.a
  obtain ⟨o0, o1, o2, _⟩ := HT3.out.o
  have fo := HT3.out.fo
  have HO1b := hide (owns_keep HO1a.out (hb3.block W0.heap.size (by have := HZ1.out; have := HS2.out; omega)))
  have HO3 := hide own3
  have HZ3 := hide hz3
  clear own3 hb3 hz3 HT2 HO1a
  go_wp2_with fail
  have HT4 := hide (HT3.out.set1 (.slice (some ⟨W2.heap.size, 0, none⟩) m m))
  have z0 := HZ0.out
  have z2 := HS2.out
  have HO1c := hide (ownsRow_setCell_below HO1b.out (a := ⟨w.heap.size + 1 + 1, 1, none⟩) (by show w.heap.size + 1 + 1 < _; omega) (.slice (some ⟨W2.heap.size, 0, none⟩) m m))
  have HO3a := hide (ownsRow_setCell_below HO3.out (a := ⟨w.heap.size + 1 + 1, 1, none⟩) (by show w.heap.size + 1 + 1 < _; have := HZ1.out; omega) (.slice (some ⟨W2.heap.size, 0, none⟩) m m))
  have hs4 : (w3.setCell ⟨w.heap.size + 1 + 1, 1, none⟩ (.slice (some ⟨W2.heap.size, 0, none⟩) m m)).heap.size = w3.heap.size := by simp
  clear HT3 HO1b HO3 a0 a1 a2 o0 o1 o2 fo
  generalize w3.setCell ⟨w.heap.size + 1 + 1, 1, none⟩ (.slice (some ⟨W2.heap.size, 0, none⟩) m m) = W4 at *
  have HS4 := hide hs4
  clear hs4 z0 z2
  refine (toI_own o e' q os _ HQ.out h3 (HO.out.below HT4.out.b)).mono ?_
  rintro _ w5 ⟨rfl, hb5, hz5, own5⟩
  have HT5 := hide (HT4.out.below hb5)
  obtain ⟨o0, o1, o2, _⟩ := HT5.out.o
  obtain ⟨r0, r1, r2, _⟩ := HT5.out.r
  have fo := HT5.out.fo
  have fr := HT5.out.fr
  have HO1d := hide (owns_keep HO1c.out (hb5.block W0.heap.size (by have := HZ1.out; have := HZ3.out; have := HS2.out; have := HS4.out; omega)))
  have HO3b := hide (owns_keep HO3a.out (hb5.block W2.heap.size (by have := HZ3.out; have := HS4.out; omega)))
  have HO5 := hide own5
  have HZ5 := hide hz5
  have HB5 := hide HT5.out.b
  clear own5 hb5 hz5 HT4 HO1c HO3a
  go_wp2_with fail
  have e0 := HZ0.out
  have e1 := HZ1.out
  have e2 := HS2.out
  have e3 := HZ3.out
  have e4 := HS4.out
  refine bodyPost_ret (v := .agg #[.slice (some ⟨W0.heap.size, 0, none⟩) n n, .slice (some ⟨W2.heap.size, 0, none⟩) m m, .slice (some ⟨W4.heap.size, 0, none⟩) q q]) (by simp [results, Tryz.results9, go_sem, r0, r1, r2]) rfl ⟨W0.heap.size, W2.heap.size, W4.heap.size, rfl, ?_, ⟨by omega, by omega, by omega, by have := HZ5.out; simpa using this⟩, ?_, ?_, ?_⟩
  · exact (((HB5.out.setCell (by show w.heap.size ≤ w.heap.size + 1 + 1; omega) _).setCell (by show w.heap.size ≤ w.heap.size + 1; omega) _).setCell (by show w.heap.size ≤ w.heap.size + 1; omega) _).setCell (by show w.heap.size ≤ w.heap.size + 1; omega) _
  · exact owns_low (ownsRow_setCell_below (ownsRow_setCell_below (ownsRow_setCell_below (ownsRow_setCell_below HO1d.out (by show w.heap.size + 1 + 1 < _; omega) _) (by show w.heap.size + 1 < _; omega) _) (by show w.heap.size + 1 < _; omega) _) (by show w.heap.size + 1 < _; omega) _) (by omega)
  · exact owns_low (ownsRow_setCell_below (ownsRow_setCell_below (ownsRow_setCell_below (ownsRow_setCell_below HO3b.out (by show w.heap.size + 1 + 1 < _; omega) _) (by show w.heap.size + 1 < _; omega) _) (by show w.heap.size + 1 < _; omega) _) (by show w.heap.size + 1 < _; omega) _) (by omega)
  · exact owns_low (ownsRow_setCell_below (ownsRow_setCell_below (ownsRow_setCell_below (ownsRow_setCell_below HO5.out (by show w.heap.size + 1 + 1 < _; omega) _) (by show w.heap.size + 1 < _; omega) _) (by show w.heap.size + 1 < _; omega) _) (by show w.heap.size + 1 < _; omega) _) (by omega)
set_option maxHeartbeats 1000000 in
theorem szH_yes {a b o : Option Addr} {n m q c d e : Nat} {left : Int} {w : World} (h0 : 0 ≤ left) (h1 : left ≤ 1048576) (h : (n : Int) + m + q ≤ left) :
    Calls Tryz.prog 6 #[.agg #[.slice a n c, .slice b m d, .slice o q e], .int .i64 left] w fun e w' => e = .returned (.int .i64 (left - n - m - q)) ∧ Below w.heap.size w w' := by
  have hz1 : ¬ left - (n : Int) < 0 := by omega
  have hz2 : ¬ left - (n : Int) - (m : Int) < 0 := by omega
  have hz3 : ¬ left - (n : Int) - (m : Int) - (q : Int) < 0 := by omega
  go_enter Tryz.func6, Tryz.ntmps6
  go_wp2_with fail
  refine (szI_yes a n c left _ h0 h1 (by omega)).mono ?_
  rintro _ w1 ⟨rfl, rfl⟩
  go_wp2_with fail
  refine (szI_yes b m d _ _ (by omega) (by omega) (by omega)).mono ?_
  rintro _ w1 ⟨rfl, rfl⟩
  go_wp2_with fail
  refine (szI_yes o q e _ _ (by omega) (by omega) (by omega)).mono ?_
  rintro _ w1 ⟨rfl, rfl⟩
  go_wp2_with fail
  go_ret
  exact ⟨rfl, (Below.refl _ _).alloc (Nat.le_refl _) _⟩
set_option maxHeartbeats 1000000 in
theorem szH_no {a b o : Option Addr} {n m q c d e : Nat} {left : Int} {w : World} (h0 : 0 ≤ left) (h1 : left ≤ 1048576) (l1 : n ≤ maxLen) (l2 : m ≤ maxLen) (l3 : q ≤ maxLen) (h : left < (n : Int) + m + q) :
    Calls Tryz.prog 6 #[.agg #[.slice a n c, .slice b m d, .slice o q e], .int .i64 left] w fun e w' => e = .returned (.int .i64 (-1)) ∧ Below w.heap.size w w' := by
  by_cases hn : (n : Int) ≤ left
  · have hz1 : ¬ left - (n : Int) < 0 := by omega
    by_cases hm : (n : Int) + m ≤ left
    · have hz2 : ¬ left - (n : Int) - (m : Int) < 0 := by omega
      go_enter Tryz.func6, Tryz.ntmps6
      go_wp2_with fail
      refine (szI_yes a n c left _ h0 h1 (by omega)).mono ?_
      rintro _ w1 ⟨rfl, rfl⟩
      go_wp2_with fail
      refine (szI_yes b m d _ _ (by omega) (by omega) (by omega)).mono ?_
      rintro _ w1 ⟨rfl, rfl⟩
      go_wp2_with fail
      refine (szI_no o q e _ _ (by omega) (by omega) l3 (by omega)).mono ?_
      rintro _ w1 ⟨rfl, rfl⟩
      go_wp2_with fail
      go_ret
      exact ⟨rfl, (Below.refl _ _).alloc (Nat.le_refl _) _⟩
    · go_enter Tryz.func6, Tryz.ntmps6
      go_wp2_with fail
      refine (szI_yes a n c left _ h0 h1 (by omega)).mono ?_
      rintro _ w1 ⟨rfl, rfl⟩
      go_wp2_with fail
      refine (szI_no b m d _ _ (by omega) (by omega) l2 (by omega)).mono ?_
      rintro _ w1 ⟨rfl, rfl⟩
      go_wp2_with fail
      go_ret
      exact ⟨rfl, (Below.refl _ _).alloc (Nat.le_refl _) _⟩
  · go_enter Tryz.func6, Tryz.ntmps6
    go_wp2_with fail
    refine (szI_no a n c left _ h0 h1 l1 (by omega)).mono ?_
    rintro _ w1 ⟨rfl, rfl⟩
    go_wp2_with fail
    go_ret
    exact ⟨rfl, (Below.refl _ _).alloc (Nat.le_refl _) _⟩
set_option maxHeartbeats 2000000 in
theorem eqH_any {a b o a' b' o' : Option Addr} {n m q c d e c' d' e' : Nat} {ws cs os : List Int} {w : World} (HN : Hid (ws.length = n)) (HM : Hid (cs.length = m)) (HQ : Hid (os.length = q)) (h1 : n ≤ 1048576) (h2 : m ≤ 1048576) (h3 : q ≤ 1048576) (ha : ARow w a ws) (hb : ARow w b cs) (ho : ARow w o os) (ha' : ARow w a' ws) (hb' : ARow w b' cs) (ho' : ARow w o' os) :
    Calls Tryz.prog 13 #[.agg #[.slice a n c, .slice b m d, .slice o q e], .agg #[.slice a' n c', .slice b' m d', .slice o' q e']] w fun e w' => e = .returned (.bool true) ∧ Below w.heap.size w w' := by
  have HA := hide ((ha.alloc (.cells #[.slice a n c, .slice b m d, .slice o q e] 40)).alloc (.cells #[.slice a' n c', .slice b' m d', .slice o' q e'] 40))
  have HB := hide ((hb.alloc (.cells #[.slice a n c, .slice b m d, .slice o q e] 40)).alloc (.cells #[.slice a' n c', .slice b' m d', .slice o' q e'] 40))
  have HO := hide ((ho.alloc (.cells #[.slice a n c, .slice b m d, .slice o q e] 40)).alloc (.cells #[.slice a' n c', .slice b' m d', .slice o' q e'] 40))
  have HA' := hide ((ha'.alloc (.cells #[.slice a n c, .slice b m d, .slice o q e] 40)).alloc (.cells #[.slice a' n c', .slice b' m d', .slice o' q e'] 40))
  have HB' := hide ((hb'.alloc (.cells #[.slice a n c, .slice b m d, .slice o q e] 40)).alloc (.cells #[.slice a' n c', .slice b' m d', .slice o' q e'] 40))
  have HO' := hide ((ho'.alloc (.cells #[.slice a n c, .slice b m d, .slice o q e] 40)).alloc (.cells #[.slice a' n c', .slice b' m d', .slice o' q e'] 40))
  clear ha hb ho ha' hb' ho'
  go_enter Tryz.func13, Tryz.ntmps13
  go_wp2_with fail
  refine (eqI_b HN.out h1 HA.out HA'.out).mono ?_
  rintro _ w1 ⟨rfl, hb1⟩
  have hB0 := (below_new w (.cells #[.slice a n c, .slice b m d, .slice o q e] 40)).trans ((below_new (w.alloc (.cells #[.slice a n c, .slice b m d, .slice o q e] 40)) (.cells #[.slice a' n c', .slice b' m d', .slice o' q e'] 40)).mono (by simp))
  have HB1 := hide (hB0.trans (hb1.mono hB0.size))
  have hx1 := (((HBox.new w (.slice a n c) (.slice b m d) (.slice o q e) 40).below (below_new _ (.cells #[.slice a' n c', .slice b' m d', .slice o' q e'] 40))).below hb1)
  have hx2 := ((HBox.new (w.alloc (.cells #[.slice a n c, .slice b m d, .slice o q e] 40)) (.slice a' n c') (.slice b' m d') (.slice o' q e') 40).below hb1)
  rw [World.size_alloc] at hx2
  have HX1 := hide hx1
  have HX2 := hide hx2
  have HB2 := hide (HB.out.below hb1)
  have HB2' := hide (HB'.out.below hb1)
  have HO2 := hide (HO.out.below hb1)
  have HO2' := hide (HO'.out.below hb1)
  obtain ⟨x0, x1, x2, _⟩ := HX1.out
  obtain ⟨y0, y1, y2, _⟩ := HX2.out
  clear hb1 hB0 hx1 hx2
  go_wp2_with fail
  refine (eqI_b HM.out h2 HB2.out HB2'.out).mono ?_
  rintro _ w2 ⟨rfl, hb2⟩
  have HB3 := hide (HB1.out.trans (hb2.mono HB1.out.size))
  have HO3 := hide (HO2.out.below hb2)
  have HO3' := hide (HO2'.out.below hb2)
  clear x0 x1 x2 y0 y1 y2
  obtain ⟨x0, x1, x2, _⟩ := HX1.out.below hb2
  obtain ⟨y0, y1, y2, _⟩ := HX2.out.below hb2
  clear hb2
  go_wp2_with fail
  refine (eqI_b HQ.out h3 HO3.out HO3'.out).mono ?_
  rintro _ w3 ⟨rfl, hb3⟩
  have HB4 := hide (HB3.out.trans (hb3.mono HB3.out.size))
  clear hb3 x0 x1 x2 y0 y1 y2
  go_wp2_with fail
  go_ret
  exact ⟨rfl, HB4.out⟩
end Go.Proofs.YtlbagigghpiifabGreat
namespace Go.Proofs.YtlbagigghpiifabGreat
open Go.RowKit

theorem HBox.keep {W W' : World} {B : Nat} {v0 v1 v2 : Value} (h : HBox W B v0 v1 v2) (hs : W.heap.size ≤ W'.heap.size) (hb : W'.heap[B]? = W.heap[B]?) : HBox W' B v0 v1 v2 :=
  ⟨(World.cell?_of_block (w := W) (a := ⟨B, 0, none⟩) hb).trans h.1, (World.cell?_of_block (w := W) (a := ⟨B, 1, none⟩) hb).trans h.2.1, (World.cell?_of_block (w := W) (a := ⟨B, 2, none⟩) hb).trans h.2.2.1, Nat.lt_of_lt_of_le h.2.2.2 hs⟩
/-- Which blocks a house has. -/
def HIn (v0 v1 v2 : Value) (g : Nat) : Prop := v0.ownBlock = some g ∨ v1.ownBlock = some g ∨ v2.ownBlock = some g
theorem HV.lt {base g : Nat} {ws cs os : List Int} {v0 v1 v2 : Value} {W : World} (h : HV base ws cs os v0 v1 v2 W) (hg : HIn v0 v1 v2 g) : base ≤ g ∧ g < W.heap.size := by
  rcases hg with hg | hg | hg
  · exact h.o0.lt g hg
  · exact h.o1.lt g hg
  · exact h.o2.lt g hg
theorem HV.keep {base : Nat} {ws cs os : List Int} {v0 v1 v2 : Value} {W W' : World} (h : HV base ws cs os v0 v1 v2 W) (hb : ∀ g, HIn v0 v1 v2 g → g < W.heap.size → W'.heap[g]? = W.heap[g]?) : HV base ws cs os v0 v1 v2 W' :=
  ⟨own_keep h.o0 fun g hg => hb g (Or.inl hg), own_keep h.o1 fun g hg => hb g (Or.inr (Or.inl hg)), own_keep h.o2 fun g hg => hb g (Or.inr (Or.inr hg)), h.d01, h.d02, h.d12⟩
theorem HV.form {base : Nat} {ws cs os : List Int} {v0 v1 v2 : Value} {W : World} (h : HV base ws cs os v0 v1 v2 W) : ∃ a c b d o e, v0 = .slice a ws.length c ∧ v1 = .slice b cs.length d ∧ v2 = .slice o os.length e := by
  obtain ⟨a, c, rfl⟩ := own_sh h.o0
  obtain ⟨b, d, rfl⟩ := own_sh h.o1
  obtain ⟨o, e, rfl⟩ := own_sh h.o2
  exact ⟨a, c, b, d, o, e, rfl, rfl, rfl⟩
theorem eqHV {b1 b2 : Nat} {ws cs os : List Int} {v0 v1 v2 u0 u1 u2 : Value} {w : World} (h1 : ws.length ≤ 1048576) (h2 : cs.length ≤ 1048576) (h3 : os.length ≤ 1048576) (h : HV b1 ws cs os v0 v1 v2 w) (h' : HV b2 ws cs os u0 u1 u2 w) :
    Calls Tryz.prog 13 #[.agg #[v0, v1, v2], .agg #[u0, u1, u2]] w fun e w' => e = .returned (.bool true) ∧ Below w.heap.size w w' := by
  obtain ⟨_, _, rfl, r1⟩ := own_row rfl h.o0
  obtain ⟨_, _, rfl, r2⟩ := own_row rfl h.o1
  obtain ⟨_, _, rfl, r3⟩ := own_row rfl h.o2
  obtain ⟨_, _, rfl, r4⟩ := own_row rfl h'.o0
  obtain ⟨_, _, rfl, r5⟩ := own_row rfl h'.o1
  obtain ⟨_, _, rfl, r6⟩ := own_row rfl h'.o2
  exact eqH_any (hide rfl) (hide rfl) (hide rfl) h1 h2 h3 r1 r2 r3 r4 r5 r6
/-- What is marked is held: three lists. -/
structure HHV (v0 v1 v2 : Value) (n m q : Nat) (k : Int) (w : World) : Prop where
  h0 : HeldV w v0 n k
  h1 : HeldV w v1 m (k + n)
  h2 : HeldV w v2 q (k + n + m)
theorem HHV.below {v0 v1 v2 : Value} {n m q : Nat} {k : Int} {w w' : World} (h : HHV v0 v1 v2 n m q k w) (hb : Below w.heap.size w w') : HHV v0 v1 v2 n m q k w' := ⟨h.h0.below hb, h.h1.below hb, h.h2.below hb⟩
structure OffH (w w' : World) (v0 v1 v2 : Value) : Prop where
  os : w'.os = w.os
  tape : w'.tape = w.tape
  output : w'.output = w.output
  size : w.heap.size ≤ w'.heap.size
  block : ∀ b, b < w.heap.size → ¬ HIn v0 v1 v2 b → w'.heap[b]? = w.heap[b]?
set_option maxHeartbeats 4000000 in
theorem markHV {a b o : Option Addr} {c d e base : Nat} {ws cs os : List Int} {n m q : Nat} {k : Int} {w : World} (hn : ws.length = n) (hm : cs.length = m) (hq : os.length = q) (n1 : n ≤ 1048576) (m1 : m ≤ 1048576) (q1 : q ≤ 1048576) (k0 : 0 ≤ k) (k1 : k ≤ 900000000)
    (h : HV base ws cs os (.slice a n c) (.slice b m d) (.slice o q e) w) :
    Calls Tryz.prog 17 #[.agg #[.slice a n c, .slice b m d, .slice o q e], .int .i64 k] w fun z w' => z = .returned (.int .i64 (k + n + m + q)) ∧ HHV (.slice a n c) (.slice b m d) (.slice o q e) n m q k w' ∧ OffH w w' (.slice a n c) (.slice b m d) (.slice o q e) := by
  have bn := below_new w (.cells #[.slice a n c, .slice b m d, .slice o q e] 40)
  have hb := h.below bn
  have hx := HBox.new w (.slice a n c) (.slice b m d) (.slice o q e) 40
  have HB := hide hb
  have HX := hide hx
  have HN1 := hide fun (g : Nat) (hg : HIn (.slice a n c) (.slice b m d) (.slice o q e) g) => (h.lt hg).2
  have HS0 : Hid (w.heap.size < (w.alloc (.cells #[.slice a n c, .slice b m d, .slice o q e] 40)).heap.size) := hide hx.2.2.2
  have HBN := hide bn
  clear hb bn hx h
  go_enter Tryz.func17, Tryz.ntmps17
  go_wp2_with fail
  generalize w.alloc (.cells #[.slice a n c, .slice b m d, .slice o q e] 40) = W at *
  have p0 := HB.out.o0
  rw [hn] at p0
  refine (markV_any hn (by omega) k0 (by omega) p0).mono ?_
  rintro _ w1 ⟨rfl, C1, hg1⟩
  have X1 := HX.out.keep hg1.size (hg1.block _ HX.out.2.2.2 fun he => by have := HN1.out _ (Or.inl he.symm); omega)
  have O1 := own_keep HB.out.o1 fun g hg hl => hg1.block g hl fun he => HB.out.d01 g he.symm hg
  have O2 := own_keep HB.out.o2 fun g hg hl => hg1.block g hl fun he => HB.out.d02 g he.symm hg
  rw [hm] at O1
  rw [hq] at O2
  have HC1 := hide C1
  have HG1 := hide hg1
  have HX1 := hide X1
  have HO1 := hide O1
  have HO2 := hide O2
  clear C1 hg1 X1 O1 O2 p0
  obtain ⟨x0, x1, x2, _⟩ := HX1.out
  go_wp2_with fail
  refine (markV_any hm (by omega) (by omega) (by omega) HO1.out).mono ?_
  rintro _ w2 ⟨rfl, C2, hg2⟩
  have X2 := HX1.out.keep hg2.size (hg2.block _ HX1.out.2.2.2 fun he => by have := HN1.out _ (Or.inr (Or.inl he.symm)); omega)
  have O3 := own_keep HO2.out fun g hg hl => hg2.block g hl fun he => HB.out.d12 g he.symm hg
  have C1' := HC1.out.keep hg2.size fun g hg => hg2.block g (Nat.lt_of_lt_of_le (HB.out.lt (Or.inl hg)).2 HG1.out.size) fun he => HB.out.d01 g hg he.symm
  have HC1' := hide C1'
  have HC2 := hide C2
  have HG2 := hide hg2
  have HX2 := hide X2
  have HO3 := hide O3
  clear C1' C2 hg2 X2 O3 x0 x1 x2
  obtain ⟨x0, x1, x2, _⟩ := HX2.out
  go_wp2_with fail
  refine (markV_any hq (by omega) (by omega) (by omega) HO3.out).mono ?_
  rintro _ w3 ⟨rfl, C3, hg3⟩
  have s1 := HG1.out.size
  have s2 := HG2.out.size
  have s3 := hg3.size
  have s0 := HS0.out
  have C1'' := HC1'.out.keep hg3.size fun g hg => hg3.block g (by have := (HB.out.lt (Or.inl hg)).2; omega) fun he => HB.out.d02 g hg he.symm
  have C2'' := HC2.out.keep hg3.size fun g hg => hg3.block g (by have := (HB.out.lt (Or.inr (Or.inl hg))).2; omega) fun he => HB.out.d12 g hg he.symm
  have HHH := hide (HHV.mk C1'' C2'' C3)
  have HOF : Hid (OffH w w3 (.slice a n c) (.slice b m d) (.slice o q e)) := hide ⟨((hg3.os.trans HG2.out.os).trans HG1.out.os).trans HBN.out.os, ((hg3.tape.trans HG2.out.tape).trans HG1.out.tape).trans HBN.out.tape, ((hg3.output.trans HG2.out.output).trans HG1.out.output).trans HBN.out.output, by omega,
    fun g hg h1 => (((hg3.block g (by omega) fun he => h1 (Or.inr (Or.inr he.symm))).trans (HG2.out.block g (by omega) fun he => h1 (Or.inr (Or.inl he.symm)))).trans (HG1.out.block g (by omega) fun he => h1 (Or.inl he.symm))).trans (HBN.out.block g hg)⟩
  clear C1'' C2'' C3 hg3 x0 x1 x2 s0 s1 s2 s3
  go_wp2_with fail
  go_ret
  exact ⟨rfl, HHH.out, HOF.out⟩
set_option maxHeartbeats 4000000 in
theorem heldHV {a b o : Option Addr} {c d e : Nat} {n m q : Nat} {k : Int} {w : World} (n1 : n ≤ 1048576) (m1 : m ≤ 1048576) (q1 : q ≤ 1048576) (k0 : 0 ≤ k) (k1 : k ≤ 900000000) (h : HHV (.slice a n c) (.slice b m d) (.slice o q e) n m q k w) :
    Calls Tryz.prog 18 #[.agg #[.slice a n c, .slice b m d, .slice o q e], .int .i64 k] w fun z w' => z = .returned (.int .i64 (k + n + m + q)) ∧ Below w.heap.size w w' := by
  have HBN := hide (below_new w (.cells #[.slice a n c, .slice b m d, .slice o q e] 40))
  have HX := hide (HBox.new w (.slice a n c) (.slice b m d) (.slice o q e) 40)
  have HH := hide (h.below HBN.out)
  have h1 : ¬ k + (n : Int) < 0 := by omega
  have h2 : ¬ k + (n : Int) + (m : Int) < 0 := by omega
  have h3 : ¬ k + (n : Int) + (m : Int) + (q : Int) < 0 := by omega
  clear h
  go_enter Tryz.func18, Tryz.ntmps18
  go_wp2_with fail
  generalize w.alloc (.cells #[.slice a n c, .slice b m d, .slice o q e] 40) = W at *
  obtain ⟨x0, x1, x2, _⟩ := HX.out
  refine (heldV_any (by omega) k0 (by omega) HH.out.h0).mono ?_
  rintro _ w1 ⟨rfl, rfl⟩
  go_wp2_with fail
  refine (heldV_any (by omega) (by omega) (by omega) HH.out.h1).mono ?_
  rintro _ w1 ⟨rfl, rfl⟩
  go_wp2_with fail
  refine (heldV_any (by omega) (by omega) (by omega) HH.out.h2).mono ?_
  rintro _ w1 ⟨rfl, rfl⟩
  go_wp2_with fail
  go_ret
  exact ⟨rfl, HBN.out⟩
end Go.Proofs.YtlbagigghpiifabGreat
namespace Go.Proofs.YtlbagigghpiifabGreat
open Go.RowKit

/-- What lies while RenewHouse ends: the house handed in, the new one in its variable, the answer's variable. -/
structure RS (w : World) (D : Nat) (va vb vc v0 v1 v2 : Value) (A C O : List Int) (W : World) : Prop where
  h : HBox W (w.heap.size + 1) va vb vc
  n : HBox W D v0 v1 v2
  r : ∃ r0 r1 r2, HBox W (w.heap.size + 2) r0 r1 r2
  f : ∀ i, W.frozen? ⟨w.heap.size + 2, i, none⟩ = false
  V : HV (w.heap.size + 3) A C O v0 v1 v2 W
  lt : w.heap.size + 3 ≤ D
  b : Below w.heap.size w W
theorem RS.below {w W W' : World} {D : Nat} {va vb vc v0 v1 v2 : Value} {A C O : List Int} (h : RS w D va vb vc v0 v1 v2 A C O W) (hb : Below W.heap.size W W') : RS w D va vb vc v0 v1 v2 A C O W' := by
  obtain ⟨r0, r1, r2, hr⟩ := h.r
  exact ⟨h.h.below hb, h.n.below hb, ⟨r0, r1, r2, hr.below hb⟩, fun i => (hb.frozen (p := ⟨w.heap.size + 2, i, none⟩) hr.2.2.2).trans (h.f i), h.V.below hb, h.lt, h.b.trans (hb.mono h.b.size)⟩
theorem HBox.put {W : World} {B : Nat} {r0 r1 r2 : Value} (h : HBox W B r0 r1 r2) (u v x : Value) : HBox (((W.setCell ⟨B, 0, none⟩ u).setCell ⟨B, 1, none⟩ v).setCell ⟨B, 2, none⟩ x) B u v x := by
  obtain ⟨h0, h1, h2, h3⟩ := h
  refine ⟨?_, ?_, ?_, by simpa using h3⟩
  · rw [World.cell?_setCell_other _ _ _ _ (by simp), World.cell?_setCell_other _ _ _ _ (by simp)]
    exact World.cell?_setCell_same' _ _ _ (by rw [h0]; rfl)
  · rw [World.cell?_setCell_other _ _ _ _ (by simp)]
    exact World.cell?_setCell_same' _ _ _ (by rw [World.cell?_setCell_other _ _ _ _ (by simp), h1]; rfl)
  · exact World.cell?_setCell_same' _ _ _ (by rw [World.cell?_setCell_other _ _ _ _ (by simp), World.cell?_setCell_other _ _ _ _ (by simp), h2]; rfl)
theorem HBox.off {W : World} {B E : Nat} {r0 r1 r2 : Value} (h : HBox W B r0 r1 r2) (hne : B ≠ E) (u v x : Value) : HBox (((W.setCell ⟨E, 0, none⟩ u).setCell ⟨E, 1, none⟩ v).setCell ⟨E, 2, none⟩ x) B r0 r1 r2 := by
  have hne : ∀ i, (((W.setCell ⟨E, 0, none⟩ u).setCell ⟨E, 1, none⟩ v).setCell ⟨E, 2, none⟩ x).cell? ⟨B, i, none⟩ = W.cell? ⟨B, i, none⟩ := fun i => by
    rw [World.cell?_setCell_far _ _ _ _ (fun e => hne e.symm), World.cell?_setCell_far _ _ _ _ (fun e => hne e.symm), World.cell?_setCell_far _ _ _ _ (fun e => hne e.symm)]
  exact ⟨(hne 0).trans h.1, (hne 1).trans h.2.1, (hne 2).trans h.2.2.1, by simpa using h.2.2.2⟩
theorem RS.putBox {w W : World} {D : Nat} {va vb vc v0 v1 v2 : Value} {A C O : List Int} (h : RS w D va vb vc v0 v1 v2 A C O W) (u v x : Value) : HBox (((W.setCell ⟨w.heap.size + 2, 0, none⟩ u).setCell ⟨w.heap.size + 2, 1, none⟩ v).setCell ⟨w.heap.size + 2, 2, none⟩ x) (w.heap.size + 2) u v x := by
  obtain ⟨r0, r1, r2, hr⟩ := h.r
  exact hr.put u v x
theorem RS.put {w W : World} {D : Nat} {va vb vc v0 v1 v2 : Value} {A C O : List Int} (h : RS w D va vb vc v0 v1 v2 A C O W) (u v x : Value) : RS w D va vb vc v0 v1 v2 A C O (((W.setCell ⟨w.heap.size + 2, 0, none⟩ u).setCell ⟨w.heap.size + 2, 1, none⟩ v).setCell ⟨w.heap.size + 2, 2, none⟩ x) :=
  ⟨h.h.off (by omega) _ _ _, h.n.off (by have := h.lt; omega) _ _ _, ⟨_, _, _, h.putBox u v x⟩, fun i => by simpa [go_sem] using h.f i, ((h.V.set (by omega)).set (by omega)).set (by omega), h.lt,
    ((h.b.setCell (p := ⟨w.heap.size + 2, 0, none⟩) (by show w.heap.size ≤ w.heap.size + 2; omega) u).setCell (p := ⟨w.heap.size + 2, 1, none⟩) (by show w.heap.size ≤ w.heap.size + 2; omega) v).setCell (p := ⟨w.heap.size + 2, 2, none⟩) (by show w.heap.size ≤ w.heap.size + 2; omega) x⟩
theorem RS.row2 {w W : World} {D n : Nat} {e2 : Option Addr} {f2 : Nat} {va vb vc v0 v1 : Value} {A C O : List Int} (h : RS w D va vb vc v0 v1 (.slice e2 n f2) A C O W) (hO : O.length = n) : ARow W e2 O := by
  have o2 := h.V.o2
  rw [hO] at o2
  obtain ⟨_, _, e, r⟩ := own_row hO o2
  cases e
  exact r
set_option maxHeartbeats 4000000 in
theorem rn_yes {n' n'' r : Nat} {ok : Bool} {gs : List Gd} {ls : List (Int × Int)} {R1 R2 : List Int} {a b o : Option Addr} {n m q c d e X Y : Nat} {ws cs os : List Int} {w : World} (HSP : Hid (SpAns 28 n' n'' r ok gs ls R1 R2)) (HSH : Hid (Short gs)) (HT : Hid (TS w X Y n' n'' gs ls)) (HR : Hid (R1.length = r))
    (HN : Hid (ws.length = n)) (HM : Hid (cs.length = m)) (HQ : Hid (os.length = q)) (hq : q ≤ 1048576) (HA : Hid (ARow w a ws)) (HB : Hid (ARow w b cs)) (HO : Hid (ARow w o os)) (HG : Hid (rnB ok R1 ws cs os n' = true)) :
    Calls Tryz.prog 15 #[.agg #[.slice (some ⟨X, 0, none⟩) n' n', .slice (some ⟨Y, 0, none⟩) n'' n''], .agg #[.slice a n c, .slice b m d, .slice o q e]] w fun z w' => RAns w ws (Hs.hfC R1 ws) (Hs.ownL R1 (Hs.hfC R1 ws) ws) (Hs.unl os (Hs.ownL R1 (Hs.hfC R1 ws) ws) n) z w' := by
  have hG := HG.out
  unfold rnB at hG
  rw [HM.out, Bool.and_eq_true, Bool.and_eq_true, decide_eq_true_eq] at hG
  obtain ⟨hh, hm, hf⟩ := hG
  obtain ⟨hl, _⟩ := Hs.house_len hh
  have hn10 : n ≤ 1000 := by have := (Hs.hf_yes hf).2.2.2.1; have := HN.out; omega
  obtain rfl : q = n := by have := HN.out; have := HQ.out; omega
  subst hm
  have HH := hide hh
  have HF := hide hf
  have HOL : Hid ((Hs.ownL R1 (Hs.hfC R1 ws) ws).length = q) := hide ((Hs.ownL_len _ _ _).trans HN.out)
  have HHF := hide fun (W : World) (t : TS W X Y n' n'' gs ls) (ha : ARow W a ws) => hf_yes17 (c := c) HSP HSH (hide t) HR HN (hide ha) HF
  generalize Hs.ownL R1 (Hs.hfC R1 ws) ws = O at *
  generalize Hs.hfC R1 ws = C0 at *
  have HD := hide (RC.new w (.slice (some ⟨X, 0, none⟩) n' n') (.slice (some ⟨Y, 0, none⟩) n'' n'') (.slice a q c) (.slice b n' d) (.slice o q e) 38 40)
  clear HG hh hf hl
  go_enter Tryz.func15, Tryz.ntmps15
  go_upto_region 1 with fail
  generalize (((w.alloc (.cells #[.slice (some ⟨X, 0, none⟩) n' n', .slice (some ⟨Y, 0, none⟩) n'' n''] 38)).alloc (.cells #[.slice a q c, .slice b n' d, .slice o q e] 40)).alloc (.cells #[.slice none 0 0, .slice none 0 0, .slice none 0 0] 40)) = W0 at *
  obtain ⟨x0, x1, x2, _⟩ := HD.out.h
  obtain ⟨s0, s1, _⟩ := HD.out.s
  go_wp2_with fail
  refine (gh17_eq HN HM HQ hq (hide (HA.out.below HD.out.b)) (hide (HB.out.below HD.out.b)) (hide (HO.out.below HD.out.b)) HH).mono ?_
  rintro _ w1 ⟨rfl, hb1⟩
  have HD1 := hide (HD.out.below hb1)
  clear hb1 x0 x1 x2 s0 s1
  obtain ⟨x0, x1, x2, _⟩ := HD1.out.h
  obtain ⟨s0, s1, _⟩ := HD1.out.s
  go_wp2_with fail
  refine (HHF.out _ (HT.out.below HD1.out.b) (HA.out.below HD1.out.b)).mono ?_
  rintro _ w2 ⟨v0, v1, v2, rfl, hb2, hv⟩
  have hv2 := hv.o2
  rw [HOL.out] at hv2
  obtain ⟨e0, f0, rfl⟩ := own_sh hv.o0
  obtain ⟨e1, f1, rfl⟩ := own_sh hv.o1
  obtain ⟨e2, f2, rfl⟩ := own_sh hv2
  have bn2 := below_new w2 (.cells #[.slice e0 ws.length f0, .slice e1 C0.length f1, .slice e2 q f2] 40)
  have HD2 := (HD1.out.below hb2).below bn2
  have HRS := hide (RS.mk (w := w) (va := .slice a q c) (vb := .slice b n' d) (vc := .slice o q e) HD2.h (HBox.new w2 (.slice e0 ws.length f0) (.slice e1 C0.length f1) (.slice e2 q f2) 40) ⟨_, _, _, HD2.r⟩ HD2.f ((hv.low (Nat.succ_le_of_lt HD1.out.r.2.2.2)).below bn2) (Nat.le_trans (Nat.succ_le_of_lt HD1.out.r.2.2.2) hb2.size) HD2.b)
  generalize hA : ws.length = A at *
  generalize hC : C0.length = C at *
  clear hb2 bn2 hv hv2 HD2 HD1 HD x0 x1 x2 s0 s1
  go_upto_region 6 with fail
  generalize w2.alloc (.cells #[.slice e0 A f0, .slice e1 C f1, .slice e2 q f2] 40) = W2 at *
  generalize w2.heap.size = D at *
  rw [show w.heap.size + 1 + 1 = w.heap.size + 2 from rfl]
  refine wp_region_noPanic ?_
  refine wp_region_held_drew (S := fun w' => RS w D (.slice a q c) (.slice b n' d) (.slice o q e) (.slice e0 A f0) (.slice e1 C f1) (.slice e2 q f2) ws C0 O w') (by kernel_rfl) (HRS.out.below (Below.refl _ _).drew) (fun hHeld => ?_)
  generalize W2.drew = WD at *
  refine wpAnyH_take (i := 0) (oi := ⟨some 32, _, _, _, _, none⟩) (v := .agg #[.slice e0 A f0, .slice e1 C f1, .slice e2 q f2]) rfl (by kernel_rfl) (by kernel_rfl) (by kernel_rfl) (fun _ _ _ h => h) (Or.inl ⟨by rfl, fun w' hSw => by obtain ⟨z0, z1, z2, _⟩ := hSw.n; clear hSw; go_simp⟩) hHeld ?_
  simp only [Act.put, List.setIfInBounds_toArray, List.set_cons_zero, List.set_cons_succ]
  refine wpAnyH_take (i := 1) (oi := ⟨some 33, _, _, _, _, none⟩) (v := .pointer (some ⟨w.heap.size + 1, 2, none⟩)) rfl (by kernel_rfl) (by kernel_rfl) (by kernel_rfl) (fun _ _ _ h => h) (Or.inl ⟨by rfl, fun w' hSw => by clear hSw; go_simp⟩) hHeld ?_
  simp only [Act.put, List.setIfInBounds_toArray, List.set_cons_zero, List.set_cons_succ]
  refine wpAnyH_take (i := 2) (oi := ⟨some 34, _, _, _, _, none⟩) (v := .slice o q e) rfl (by kernel_rfl) (by kernel_rfl) (by kernel_rfl) (fun _ _ _ h => h) (Or.inl ⟨by rfl, fun w' hSw => by obtain ⟨z0, z1, z2, _⟩ := hSw.h; clear hSw; go_simp⟩) hHeld ?_
  simp only [Act.put, List.setIfInBounds_toArray, List.set_cons_zero, List.set_cons_succ]
  refine wpAnyH_take (i := 3) (oi := ⟨some 35, _, _, _, _, none⟩) (v := .pointer (some ⟨D, 2, none⟩)) rfl (by kernel_rfl) (by kernel_rfl) (by kernel_rfl) (fun _ _ _ h => h) (Or.inl ⟨by rfl, fun w' hSw => by clear hSw; go_simp⟩) hHeld ?_
  simp only [Act.put, List.setIfInBounds_toArray, List.set_cons_zero, List.set_cons_succ]
  refine wpAnyH_take (i := 4) (oi := ⟨some 36, _, _, _, _, none⟩) (v := .slice e2 q f2) rfl (by kernel_rfl) (by kernel_rfl) (by kernel_rfl) (fun _ _ _ h => h) (Or.inl ⟨by rfl, fun w' hSw => by obtain ⟨z0, z1, z2, _⟩ := hSw.n; clear hSw; go_simp⟩) hHeld ?_
  simp only [Act.put, List.setIfInBounds_toArray, List.set_cons_zero, List.set_cons_succ]
  refine wpAnyH_ready (rs := [5]) (by kernel_rfl) (by simp) ?_
  refine AllReadyH.cons (o := ⟨some 37, _, _, _, _, none⟩) rfl (fun K hK => ?_) AllReadyH.nil
  go_simp
  refine (mu_any HQ HOL hn10 (hide (HO.out.below hHeld.b)) (hide (hHeld.row2 HOL.out))).mono ?_
  rintro _ _ ⟨rfl, rfl⟩
  refine hK.out _ _ hHeld (fun hHeld' => ?_)
  clear hK K hHeld
  have hHeld := hHeld'
  clear hHeld'
  obtain ⟨r0, r1, r2, y0, y1, y2, _⟩ := hHeld.r
  have g0 := hHeld.f 0
  have g1 := hHeld.f 1
  have g2 := hHeld.f 2
  refine wpAnyH_ready (rs := [6]) (by kernel_rfl) (by simp) ?_
  refine AllReadyH.cons (o := ⟨none, _, _, _, _, none⟩) rfl (fun K hK => ?_) AllReadyH.nil
  go_simp
  refine hK.out _ _ (hHeld.put _ _ _) (fun hHeld' => ?_)
  have PP := hide (hHeld.putBox (.slice e0 A f0) (.slice e1 C f1) (.slice e2 q f2))
  clear hK K y0 y1 y2 g0 g1 g2 hHeld
  have hHeld := hHeld'
  clear hHeld'
  refine wpAnyH_take (i := 7) (oi := ⟨some 5, _, _, _, _, none⟩) (v := .int .i64 (Hs.unl os O q)) rfl (by kernel_rfl) (by kernel_rfl) (by kernel_rfl) (fun _ _ _ h => h) (Or.inl ⟨by rfl, fun w' hSw => by clear hSw; go_simp⟩) hHeld ?_
  simp only [Act.put, List.setIfInBounds_toArray, List.set_cons_zero, List.set_cons_succ]
  refine wpAnyH_take (i := 8) (oi := ⟨some 6, _, _, _, _, none⟩) (v := .bool true) rfl (by kernel_rfl) (by kernel_rfl) (by kernel_rfl) (fun _ _ _ h => h) (Or.inl ⟨by rfl, fun w' hSw => by clear hSw; go_simp⟩) hHeld ?_
  simp only [Act.put, List.setIfInBounds_toArray, List.set_cons_zero, List.set_cons_succ]
  refine wpAnyH_done (by kernel_rfl) ?_ _
  refine NoPanic.normal ?_
  obtain ⟨y0, y1, y2, _⟩ := PP.out
  go_wp2_with fail
  exact bodyPost_ret (v := .tuple #[.agg #[.slice e0 A f0, .slice e1 C f1, .slice e2 q f2], .int .i64 (Hs.unl os O q), .bool true]) (by simp [results, Tryz.results15, go_sem, y0, y1, y2]) rfl ⟨_, _, _, rfl, hHeld.b, hHeld.V.low (by omega)⟩
end Go.Proofs.YtlbagigghpiifabGreat
namespace Go.Proofs.YtlbagigghpiifabGreat
open Go.RowKit

theorem none_row17 (w : World) : (w.alloc (.cells #[] 3)).ownsRow w.heap.size 3 1 (.slice (some ⟨w.heap.size, 0, none⟩) 0 0) 0 [] := by
  have h := World.ownsRow_lit (base := w.heap.size) (e := 3) (size := 1) w #[] 0 (Nat.le_refl _) (by unfold maxLen; omega) (by simp)
  simpa using h
/-- A list of ints behind an empty one. -/
theorem cl_run17 {w : World} {a : Option Addr} {n c : Nat} {xs : List Int} (hx : xs.length = n) (hn : n ≤ 1000) (ha : ARow w a xs) :
    ∃ a' c' w', (∀ ty, (Builtin.append_ #[26, 26] ty #[.slice (some ⟨w.heap.size, 0, none⟩) 0 0, .slice a n c]).run Tryz.prog (w.alloc (.cells #[] 3)) = .ok (.slice a' n c') w') ∧ w'.ownsRow w.heap.size 3 1 (.slice a' n c') n (ints xs) ∧ Below w.heap.size w w' := by
  obtain ⟨i0', hi', hz0, hz1, hz2⟩ := infoI
  obtain ⟨v', w', h1, h2, h3⟩ := run_append_v (P := Tryz.prog) (w.alloc (.cells #[] 3)) w.heap.size 26 0 3 i0' _ 8 Tryz.underlying26 hi' hz0 hz1 hz2 rfl _ 0 _ (none_row17 w) a n c (ints xs) (by rw [ints_len, hx]) (ha.alloc _).vrow (fun u hu => by simp only [ints, List.mem_map] at hu; obtain ⟨_, _, rfl⟩ := hu; rfl) (by unfold maxLen; omega) (by omega) (by simp)
  rw [Nat.zero_add] at h2
  obtain ⟨a', c', rfl⟩ := own_form h2
  exact ⟨a', c', w', fun _ => h1, h2, ((Below.refl _ _).alloc (Nat.le_refl _) (.cells #[] 3)).trans ⟨h3.os, h3.tape, h3.output, h3.size, fun b hb => h3.block b (by simp; omega) (by simp [Value.ownBlock]; omega)⟩⟩
set_option maxHeartbeats 4000000 in
theorem shf_no {n' n'' r : Nat} {ok : Bool} {gs : List Gd} {ls : List (Int × Int)} {R1 R2 : List Int} {a : Option Addr} {n c X Y : Nat} {ws : List Int} {w : World} (HSP : Hid (SpAns 42 n' n'' r ok gs ls R1 R2)) (HSH : Hid (Short gs)) (HT : Hid (TS w X Y n' n'' gs ls)) (HR : Hid (R1.length = r))
    (HN : Hid (ws.length = n)) (hn : n ≤ 1048576) (HA : Hid (ARow w a ws)) (HG : Hid (Hs.hfB ok R1 ws = false)) :
    Calls Tryz.prog 33 #[.agg #[.slice (some ⟨X, 0, none⟩) n' n', .slice (some ⟨Y, 0, none⟩) n'' n''], .slice a n c] w fun e w' => e = .returned (.tuple #[.agg #[.slice none 0 0, .slice none 0 0, .slice none 0 0], .bool false]) ∧ Below w.heap.size w w' := by
  have HD := hide (HC.new w (.cells #[.slice (some ⟨X, 0, none⟩) n' n', .slice (some ⟨Y, 0, none⟩) n'' n''] 38) 40)
  have HEND : Hid (∀ W, HC w W → W.cell? ⟨w.heap.size + 1, 0, none⟩ = some (.slice none 0 0) ∧ W.cell? ⟨w.heap.size + 1, 1, none⟩ = some (.slice none 0 0) ∧ W.cell? ⟨w.heap.size + 1, 2, none⟩ = some (.slice none 0 0) ∧ W.frozen? ⟨w.heap.size + 1, 0, none⟩ = false ∧ W.frozen? ⟨w.heap.size + 1, 1, none⟩ = false ∧ W.frozen? ⟨w.heap.size + 1, 2, none⟩ = false) := hide fun W h => ⟨h.r.1, h.r.2.1, h.r.2.2.1, h.f 0, h.f 1, h.f 2⟩
  cases hp : (ok && Sh.flowB R1)
  · have HP := hide hp
    clear hp HG
    go_enter Tryz.func33, Tryz.ntmps33
    go_wp2_with fail
    generalize ((w.alloc (.cells #[.slice (some ⟨X, 0, none⟩) n' n', .slice (some ⟨Y, 0, none⟩) n'' n''] 38)).alloc (.cells #[.slice none 0 0, .slice none 0 0, .slice none 0 0] 40)) = W0 at *
    refine (lp_no HSP HSH (hide (HT.out.below HD.out.b)) HR HP).mono ?_
    rintro _ w1 ⟨rfl, hb1⟩
    have HD1 := HD.out.below hb1
    obtain ⟨x0, x1, x2, g0, g1, g2⟩ := HEND.out _ HD1
    clear hb1
    go_wp2_with fail
    exact bodyPost_ret (v := .tuple #[.agg #[.slice none 0 0, .slice none 0 0, .slice none 0 0], .bool false]) (by simp [results, Tryz.results33, go_sem, x0, x1, x2]) rfl ⟨rfl, HD1.res _ _ _⟩
  · have hpp := hp
    rw [Bool.and_eq_true] at hpp
    obtain ⟨rfl, hf⟩ := hpp
    have HF := hide hf
    have HAL := hide fun (W : World) (q : Bool) (h : ARow W a ws) (hq : Pf.allB ws 0 1000 = q) => sall17 (c := c) (hide h) HN (by omega) (hide hq)
    have hG := HG.out
    unfold Hs.hfB at hG
    rw [hp, Bool.true_and, HN.out, HR.out] at hG
    clear hp hf HG
    by_cases h1 : n < r
    · have i1 : (n : Int) < (r : Int) := by omega
      clear hG
      go_enter Tryz.func33, Tryz.ntmps33
      go_wp2_with fail
      generalize ((w.alloc (.cells #[.slice (some ⟨X, 0, none⟩) n' n', .slice (some ⟨Y, 0, none⟩) n'' n''] 38)).alloc (.cells #[.slice none 0 0, .slice none 0 0, .slice none 0 0] 40)) = W0 at *
      refine (lp_yes HSP HSH (hide (HT.out.below HD.out.b)) HR HF).mono ?_
      rintro _ w1 ⟨p, f, rfl, hb1, _⟩
      have HD1 := HD.out.below hb1
      obtain ⟨x0, x1, x2, g0, g1, g2⟩ := HEND.out _ HD1
      clear hb1
      go_wp2_with fail
      exact bodyPost_ret (v := .tuple #[.agg #[.slice none 0 0, .slice none 0 0, .slice none 0 0], .bool false]) (by simp [results, Tryz.results33, go_sem, x0, x1, x2]) rfl ⟨rfl, HD1.res _ _ _⟩
    · have i1 : ¬ (n : Int) < (r : Int) := by omega
      by_cases h2 : n ≤ 10
      · have i2 : ¬ (10 : Int) < (n : Int) := by omega
        have HQ : Hid (Pf.allB ws 0 1000 = false) := hide (by
          rw [decide_eq_true (by omega : r ≤ n), decide_eq_true h2, Bool.true_and, Bool.true_and] at hG
          exact hG)
        clear hG
        go_enter Tryz.func33, Tryz.ntmps33
        go_wp2_with fail
        generalize ((w.alloc (.cells #[.slice (some ⟨X, 0, none⟩) n' n', .slice (some ⟨Y, 0, none⟩) n'' n''] 38)).alloc (.cells #[.slice none 0 0, .slice none 0 0, .slice none 0 0] 40)) = W0 at *
        refine (lp_yes HSP HSH (hide (HT.out.below HD.out.b)) HR HF).mono ?_
        rintro _ w1 ⟨p, f, rfl, hb1, _⟩
        have HD1 := HD.out.below hb1
        obtain ⟨x0, x1, x2, g0, g1, g2⟩ := HEND.out _ HD1
        have HA1 := hide (HA.out.below HD1.b)
        clear hb1
        go_wp2_with (go_at_call 45; refine (HAL.out _ _ HA1.out HQ.out).mono ?_; rintro _ _ ⟨rfl, rfl⟩)
        exact bodyPost_ret (v := .tuple #[.agg #[.slice none 0 0, .slice none 0 0, .slice none 0 0], .bool false]) (by simp [results, Tryz.results33, go_sem, x0, x1, x2]) rfl ⟨rfl, HD1.res _ _ _⟩
      · have i2 : (10 : Int) < (n : Int) := by omega
        clear hG
        go_enter Tryz.func33, Tryz.ntmps33
        go_wp2_with fail
        generalize ((w.alloc (.cells #[.slice (some ⟨X, 0, none⟩) n' n', .slice (some ⟨Y, 0, none⟩) n'' n''] 38)).alloc (.cells #[.slice none 0 0, .slice none 0 0, .slice none 0 0] 40)) = W0 at *
        refine (lp_yes HSP HSH (hide (HT.out.below HD.out.b)) HR HF).mono ?_
        rintro _ w1 ⟨p, f, rfl, hb1, _⟩
        have HD1 := HD.out.below hb1
        obtain ⟨x0, x1, x2, g0, g1, g2⟩ := HEND.out _ HD1
        clear hb1
        go_wp2_with fail
        exact bodyPost_ret (v := .tuple #[.agg #[.slice none 0 0, .slice none 0 0, .slice none 0 0], .bool false]) (by simp [results, Tryz.results33, go_sem, x0, x1, x2]) rfl ⟨rfl, HD1.res _ _ _⟩
set_option maxHeartbeats 4000000 in
theorem shf_yes {n' n'' r : Nat} {ok : Bool} {gs : List Gd} {ls : List (Int × Int)} {R1 R2 : List Int} {a : Option Addr} {n c X Y : Nat} {ws : List Int} {w : World} (HSP : Hid (SpAns 42 n' n'' r ok gs ls R1 R2)) (HSH : Hid (Short gs)) (HT : Hid (TS w X Y n' n'' gs ls)) (HR : Hid (R1.length = r))
    (HN : Hid (ws.length = n)) (HA : Hid (ARow w a ws)) (HG : Hid (Hs.hfB ok R1 ws = true)) :
    Calls Tryz.prog 33 #[.agg #[.slice (some ⟨X, 0, none⟩) n' n', .slice (some ⟨Y, 0, none⟩) n'' n''], .slice a n c] w fun e w' => HAns w ws (Hs.hfC R1 ws) (Hs.ownL R1 (Hs.hfC R1 ws) ws) e w' := by
  have HD := hide (HC.new w (.cells #[.slice (some ⟨X, 0, none⟩) n' n', .slice (some ⟨Y, 0, none⟩) n'' n''] 38) 40)
  have HDY := Hs.hf_day HG.out
  obtain ⟨_, _, hsb⟩ := Hs.day_yes HDY
  have HSB := hide hsb
  have hk := Hs.hf_kinds HG.out
  obtain ⟨hok, hfl, hle, hle10, hall⟩ := Hs.hf_yes HG.out
  subst hok
  have HF := hide hfl
  obtain ⟨f1, f2, _⟩ := Sh.flowB_yes hfl
  rw [HN.out] at hk hle hle10
  rw [HR.out] at f1 f2 hle
  have HK := hide hk
  obtain ⟨K, hK⟩ : ∃ K : Nat, (K : Int) = (n : Int) - r := ⟨n - r, by omega⟩
  have HCE := hide (show Sh.share R1 K = Hs.hfC R1 ws by rw [shareL_of HR hK, Hs.hfC, HN.out])
  have hsl : Hid ((Hs.hfC R1 ws).length = r) := hide ((Hs.hfC_len _ _).trans HR.out)
  have hol : Hid ((Hs.ownL R1 (Hs.hfC R1 ws) ws).length = n) := hide ((Hs.ownL_len _ _ _).trans HN.out)
  have HAL := hide fun (W : World) (h : ARow W a ws) => sall17 (c := c) (hide h) HN (by omega) (hide hall)
  obtain ⟨C, hC⟩ : ∃ C, C = Hs.hfC R1 ws := ⟨_, rfl⟩
  rw [← hC] at HCE hsl hol HSB ⊢
  obtain ⟨O, hO⟩ : ∃ O, O = Hs.ownL R1 C ws := ⟨_, rfl⟩
  rw [← hO] at hol ⊢
  have HSH4 := hide fun (W : World) (p : Option Addr) (f : Nat) (h : ARow W p R1) => scf_any (c := f) (hide h) HR HK hK
  rw [HCE.out] at HSH4
  have HSS := hide fun (W : World) (p b : Option Addr) (d f : Nat) (h1 : ARow W p R1) (h2 : ARow W b C) (h3 : ARow W a ws) => ss_any (c := c) (d := d) (f := f) HN hsl HR HF HSB (hide h3) (hide h2) (hide h1)
  rw [← hO] at HSS
  have i1 : ¬ (n : Int) < (r : Int) := by omega
  have i2 : ¬ (10 : Int) < (n : Int) := by omega
  have hn1000 : n ≤ 1000 := by omega
  clear hk hfl hle hle10 f1 f2 hC hO HG HDY hsb hall hK
  go_enter Tryz.func33, Tryz.ntmps33
  go_wp2_with fail
  generalize ((w.alloc (.cells #[.slice (some ⟨X, 0, none⟩) n' n', .slice (some ⟨Y, 0, none⟩) n'' n''] 38)).alloc (.cells #[.slice none 0 0, .slice none 0 0, .slice none 0 0] 40)) = W0 at *
  refine (lp_yes HSP HSH (hide (HT.out.below HD.out.b)) HR HF).mono ?_
  rintro _ w1 ⟨p, f, rfl, hb1, hr1⟩
  have HD1 := hide (HD.out.below hb1)
  have HR1 := hide hr1
  have HA1 := hide (HA.out.below HD1.out.b)
  clear hb1 hr1
  go_wp2_with (go_at_call 45; refine (HAL.out _ HA1.out).mono ?_; rintro _ _ ⟨rfl, rfl⟩)
  refine (HSH4.out _ _ _ HR1.out).mono ?_
  rintro _ w2 ⟨v, rfl, hb2, oc⟩
  obtain ⟨aq, cq, rfl, hr2⟩ := own_any7 hsl.out oc
  have HC2 := hide hr2
  have HD2 := hide (HD1.out.below hb2)
  have HR2 := hide (HR1.out.below hb2)
  have HA2 := hide (HA.out.below HD2.out.b)
  have HO2 := hide (owns_low (base' := w.heap.size + 2) oc (Nat.succ_le_of_lt HD1.out.r.2.2.2))
  have ht2 := fun g (h : (Value.slice aq r cq).ownBlock = some g) => own_hi oc h
  have hT2 := hide ht2
  obtain ⟨a3, c3, w3, hr3, own3, hb3⟩ := cl_run17 (c := c) HN.out hn1000 HA2.out
  have HD3 := hide (HD2.out.below hb3)
  have HR3 := hide (HR2.out.below hb3)
  have HC3 := hide (HC2.out.below hb3)
  have HA3 := hide (HA.out.below HD3.out.b)
  have HO3 := hide (own_below HO2.out hb3)
  have HZ3 := hide own3
  clear hb2 oc hr2 ht2 hb3 own3
  go_wp2_with (first | (at_builtin; refine Lib.wpList_append_run _ rfl _ _ _ _ rfl _ _ rfl rfl _ _ (hr3 _) ?_))
  refine (HSS.out _ _ _ _ _ HR3.out HC3.out HA3.out).mono ?_
  rintro _ w4 ⟨go, rfl, hb4, hgo, oo⟩
  have HD4 := HD3.out.below hb4
  have HV4 : Hid (HV (w.heap.size + 2) ws C O (.slice a3 n c3) (.slice aq r cq) (.slice (some ⟨go, 0, none⟩) n n) w4) := hide (by
    have h2 := HD2.out.b.size
    have hs2 := Nat.succ_le_of_lt HD2.out.r.2.2.2
    refine ⟨?_, ?_, ?_, ?_, ?_, ?_⟩
    · rw [HN.out]; exact owns_low (own_below HZ3.out hb4) hs2
    · rw [hsl.out]; exact own_below HO3.out hb4
    · rw [hol.out]; exact oo.own17 (Nat.le_trans (Nat.succ_le_of_lt HD3.out.r.2.2.2) hgo)
    · intro g hg e
      have h3 : w2.heap.size ≤ g := own_lt17 HZ3.out hg
      have h4 : g < w2.heap.size := hT2.out g e
      omega
    · intro g hg e; cases e
      have h4 : go < w3.heap.size := own_hi HZ3.out hg
      omega
    · intro g hg e; cases e
      have h4 : go < w3.heap.size := own_hi HO3.out hg
      omega)
  have x0 := HD4.r.1
  have x1 := HD4.r.2.1
  have x2 := HD4.r.2.2.1
  have g0 := HD4.f 0
  have g1 := HD4.f 1
  have g2 := HD4.f 2
  clear hb4 oo hgo
  go_wp2_with fail
  refine bodyPost_ret (v := .tuple #[.agg #[.slice a3 n c3, .slice aq r cq, .slice (some ⟨go, 0, none⟩) n n], .bool true]) (by simp [results, Tryz.results33, go_sem, x0, x1, x2]) rfl ⟨_, _, _, rfl, HD4.res _ _ _, ?_⟩
  exact (((HV4.out.set (Nat.lt_succ_self _)).set (Nat.lt_succ_self _)).set (Nat.lt_succ_self _)).low (Nat.le_add_right _ _)
end Go.Proofs.YtlbagigghpiifabGreat
namespace Go.Proofs.YtlbagigghpiifabGreat
open Go.RowKit

set_option maxHeartbeats 4000000 in
theorem srn_no {n' n'' r : Nat} {ok : Bool} {gs : List Gd} {ls : List (Int × Int)} {R1 R2 : List Int} {a b o : Option Addr} {n m q c d e X Y : Nat} {ws cs os : List Int} {w : World} (HSP : Hid (SpAns 42 n' n'' r ok gs ls R1 R2)) (HOK : Hid (ok = false → R1 = [])) (HOR : ok = true → r = n') (HSH : Hid (Short gs)) (HT : Hid (TS w X Y n' n'' gs ls)) (HR : Hid (R1.length = r))
    (HN : Hid (ws.length = n)) (hn : n ≤ 1048576) (HM : Hid (cs.length = m)) (HQ : Hid (os.length = q)) (hq : q ≤ 1048576) (HA : Hid (ARow w a ws)) (HB : Hid (ARow w b cs)) (HO : Hid (ARow w o os)) (HG : Hid (rnB ok R1 ws cs os n' = false)) :
    Calls Tryz.prog 14 #[.agg #[.slice (some ⟨X, 0, none⟩) n' n', .slice (some ⟨Y, 0, none⟩) n'' n''], .agg #[.slice a n c, .slice b m d, .slice o q e]] w fun z w' => z = .returned (.tuple #[.agg #[.slice none 0 0, .slice none 0 0, .slice none 0 0], .int .i64 0, .bool false]) ∧ Below w.heap.size w w' := by
  have HD := hide (RC.new w (.slice (some ⟨X, 0, none⟩) n' n') (.slice (some ⟨Y, 0, none⟩) n'' n'') (.slice a n c) (.slice b m d) (.slice o q e) 38 40)
  have HEND : Hid (∀ W, RC w (.slice (some ⟨X, 0, none⟩) n' n') (.slice (some ⟨Y, 0, none⟩) n'' n'') (.slice a n c) (.slice b m d) (.slice o q e) W → W.cell? ⟨w.heap.size + 2, 0, none⟩ = some (.slice none 0 0) ∧ W.cell? ⟨w.heap.size + 2, 1, none⟩ = some (.slice none 0 0) ∧ W.cell? ⟨w.heap.size + 2, 2, none⟩ = some (.slice none 0 0) ∧ W.frozen? ⟨w.heap.size + 2, 0, none⟩ = false ∧ W.frozen? ⟨w.heap.size + 2, 1, none⟩ = false ∧ W.frozen? ⟨w.heap.size + 2, 2, none⟩ = false) := hide fun W h => ⟨h.r.1, h.r.2.1, h.r.2.2.1, h.f 0, h.f 1, h.f 2⟩
  have hG := HG.out
  unfold rnB at hG
  rw [HM.out] at hG
  clear HG
  cases hp : (ok && Sh.flowB R1)
  · have HP := hide hp
    clear hp hG HOR
    go_enter Tryz.func14, Tryz.ntmps14
    go_upto_region 1 with fail
    generalize (((w.alloc (.cells #[.slice (some ⟨X, 0, none⟩) n' n', .slice (some ⟨Y, 0, none⟩) n'' n''] 38)).alloc (.cells #[.slice a n c, .slice b m d, .slice o q e] 40)).alloc (.cells #[.slice none 0 0, .slice none 0 0, .slice none 0 0] 40)) = W0 at *
    obtain ⟨s0, s1, _⟩ := HD.out.s
    go_wp2_with fail
    refine (lp_no HSP HSH (hide (HT.out.below HD.out.b)) HR HP).mono ?_
    rintro _ w1 ⟨rfl, hb1⟩
    have HD1 := hide (HD.out.below hb1)
    clear hb1 s0 s1
    obtain ⟨y0, y1, y2, g0, g1, g2⟩ := HEND.out _ HD1.out
    go_wp2_with fail
    exact bodyPost_ret (v := .tuple #[.agg #[.slice none 0 0, .slice none 0 0, .slice none 0 0], .int .i64 0, .bool false]) (by simp [results, Tryz.results14, go_sem, y0, y1, y2]) rfl ⟨rfl, HD1.out.res _ _ _⟩
  · rw [Bool.and_eq_true] at hp
    obtain ⟨rfl, hf⟩ := hp
    have HFL := hide hf
    obtain rfl := HOR rfl
    clear HOR hf
    cases hh : Hs.houseB ws cs os
    · have HH := hide hh
      clear hh hG
      go_enter Tryz.func14, Tryz.ntmps14
      go_upto_region 1 with fail
      generalize (((w.alloc (.cells #[.slice (some ⟨X, 0, none⟩) r r, .slice (some ⟨Y, 0, none⟩) n'' n''] 38)).alloc (.cells #[.slice a n c, .slice b m d, .slice o q e] 40)).alloc (.cells #[.slice none 0 0, .slice none 0 0, .slice none 0 0] 40)) = W0 at *
      obtain ⟨s0, s1, _⟩ := HD.out.s
      go_wp2_with fail
      refine (lp_yes HSP HSH (hide (HT.out.below HD.out.b)) HR HFL).mono ?_
      rintro _ w1 ⟨p, f, rfl, hb1, _⟩
      have HD1 := hide (HD.out.below hb1)
      clear hb1 s0 s1
      obtain ⟨x0, x1, x2, _⟩ := HD1.out.h
      go_wp2_with fail
      refine (sgh17_eq HN HM hn HQ hq (hide (HA.out.below HD1.out.b)) (hide (HB.out.below HD1.out.b)) (hide (HO.out.below HD1.out.b)) HH).mono ?_
      rintro _ w2 ⟨rfl, hb2⟩
      have HD2 := hide (HD1.out.below hb2)
      clear hb2 x0 x1 x2
      obtain ⟨x0, x1, x2, _⟩ := HD2.out.h
      obtain ⟨y0, y1, y2, g0, g1, g2⟩ := HEND.out _ HD2.out
      go_wp2_with fail
      exact bodyPost_ret (v := .tuple #[.agg #[.slice none 0 0, .slice none 0 0, .slice none 0 0], .int .i64 0, .bool false]) (by simp [results, Tryz.results14, go_sem, y0, y1, y2]) rfl ⟨rfl, HD2.out.res _ _ _⟩
    · have HH := hide hh
      rw [hh, Bool.true_and] at hG
      clear hh
      by_cases hm : r = m
      · have HF : Hid (Hs.hfB true R1 ws = false) := hide (by rw [decide_eq_true hm, Bool.true_and] at hG; exact hG)
        have he : ((r : Int) != (m : Int)) = false := by simp; omega
        clear hG hm
        go_enter Tryz.func14, Tryz.ntmps14
        go_upto_region 1 with fail
        generalize (((w.alloc (.cells #[.slice (some ⟨X, 0, none⟩) r r, .slice (some ⟨Y, 0, none⟩) n'' n''] 38)).alloc (.cells #[.slice a n c, .slice b m d, .slice o q e] 40)).alloc (.cells #[.slice none 0 0, .slice none 0 0, .slice none 0 0] 40)) = W0 at *
        obtain ⟨s0, s1, _⟩ := HD.out.s
        go_wp2_with fail
        refine (lp_yes HSP HSH (hide (HT.out.below HD.out.b)) HR HFL).mono ?_
        rintro _ w1 ⟨p, f, rfl, hb1, _⟩
        have HD1 := hide (HD.out.below hb1)
        clear hb1 s0 s1
        obtain ⟨x0, x1, x2, _⟩ := HD1.out.h
        go_wp2_with fail
        refine (sgh17_eq HN HM hn HQ hq (hide (HA.out.below HD1.out.b)) (hide (HB.out.below HD1.out.b)) (hide (HO.out.below HD1.out.b)) HH).mono ?_
        rintro _ w2 ⟨rfl, hb2⟩
        have HD2 := hide (HD1.out.below hb2)
        clear hb2 x0 x1 x2
        obtain ⟨x0, x1, x2, _⟩ := HD2.out.h
        obtain ⟨s0, s1, _⟩ := HD2.out.s
        go_wp2_with fail
        refine (shf_no HSP HSH (hide (HT.out.below HD2.out.b)) HR HN hn (hide (HA.out.below HD2.out.b)) HF).mono ?_
        rintro _ w3 ⟨rfl, hb3⟩
        have bn3 := below_new w3 (.cells #[.slice none 0 0, .slice none 0 0, .slice none 0 0] 40)
        have HD3 := hide ((HD2.out.below hb3).below bn3)
        clear hb3 bn3 x0 x1 x2 s0 s1
        go_upto_region 5 with fail
        generalize w3.alloc (.cells #[.slice none 0 0, .slice none 0 0, .slice none 0 0] 40) = W3 at *
        obtain ⟨y0, y1, y2, g0, g1, g2⟩ := HEND.out _ HD3.out
        go_wp2_with fail
        exact bodyPost_ret (v := .tuple #[.agg #[.slice none 0 0, .slice none 0 0, .slice none 0 0], .int .i64 0, .bool false]) (by simp [results, Tryz.results14, go_sem, y0, y1, y2]) rfl ⟨rfl, HD3.out.res _ _ _⟩
      · have he : ((r : Int) != (m : Int)) = true := by simp; omega
        clear hG hm
        go_enter Tryz.func14, Tryz.ntmps14
        go_upto_region 1 with fail
        generalize (((w.alloc (.cells #[.slice (some ⟨X, 0, none⟩) r r, .slice (some ⟨Y, 0, none⟩) n'' n''] 38)).alloc (.cells #[.slice a n c, .slice b m d, .slice o q e] 40)).alloc (.cells #[.slice none 0 0, .slice none 0 0, .slice none 0 0] 40)) = W0 at *
        obtain ⟨s0, s1, _⟩ := HD.out.s
        go_wp2_with fail
        refine (lp_yes HSP HSH (hide (HT.out.below HD.out.b)) HR HFL).mono ?_
        rintro _ w1 ⟨p, f, rfl, hb1, _⟩
        have HD1 := hide (HD.out.below hb1)
        clear hb1 s0 s1
        obtain ⟨x0, x1, x2, _⟩ := HD1.out.h
        go_wp2_with fail
        refine (sgh17_eq HN HM hn HQ hq (hide (HA.out.below HD1.out.b)) (hide (HB.out.below HD1.out.b)) (hide (HO.out.below HD1.out.b)) HH).mono ?_
        rintro _ w2 ⟨rfl, hb2⟩
        have HD2 := hide (HD1.out.below hb2)
        clear hb2 x0 x1 x2
        obtain ⟨x0, x1, x2, _⟩ := HD2.out.h
        obtain ⟨y0, y1, y2, g0, g1, g2⟩ := HEND.out _ HD2.out
        go_wp2_with fail
        exact bodyPost_ret (v := .tuple #[.agg #[.slice none 0 0, .slice none 0 0, .slice none 0 0], .int .i64 0, .bool false]) (by simp [results, Tryz.results14, go_sem, y0, y1, y2]) rfl ⟨rfl, HD2.out.res _ _ _⟩
set_option maxHeartbeats 4000000 in
theorem srn_yes {n' n'' r : Nat} {ok : Bool} {gs : List Gd} {ls : List (Int × Int)} {R1 R2 : List Int} {a b o : Option Addr} {n m q c d e X Y : Nat} {ws cs os : List Int} {w : World} (HSP : Hid (SpAns 42 n' n'' r ok gs ls R1 R2)) (HOR : ok = true → r = n') (HSH : Hid (Short gs)) (HT : Hid (TS w X Y n' n'' gs ls)) (HR : Hid (R1.length = r))
    (HN : Hid (ws.length = n)) (hn : n ≤ 1048576) (HM : Hid (cs.length = m)) (HQ : Hid (os.length = q)) (hq : q ≤ 1048576) (HA : Hid (ARow w a ws)) (HB : Hid (ARow w b cs)) (HO : Hid (ARow w o os)) (HG : Hid (rnB ok R1 ws cs os n' = true)) :
    Calls Tryz.prog 14 #[.agg #[.slice (some ⟨X, 0, none⟩) n' n', .slice (some ⟨Y, 0, none⟩) n'' n''], .agg #[.slice a n c, .slice b m d, .slice o q e]] w fun z w' => RAns w ws (Hs.hfC R1 ws) (Hs.ownL R1 (Hs.hfC R1 ws) ws) (Hs.unl os (Hs.ownL R1 (Hs.hfC R1 ws) ws) n) z w' := by
  have hG := HG.out
  unfold rnB at hG
  rw [HM.out, Bool.and_eq_true, Bool.and_eq_true, decide_eq_true_eq] at hG
  obtain ⟨hh, hm, hf⟩ := hG
  obtain ⟨hl, _⟩ := Hs.house_len hh
  obtain ⟨hok, hfl, _, hn10', _⟩ := Hs.hf_yes hf
  subst hok
  have HFL := hide hfl
  have hn10 : n ≤ 1000 := by have := HN.out; omega
  obtain rfl : q = n := by have := HN.out; have := HQ.out; omega
  obtain rfl := HOR rfl
  subst hm
  have he : ((r : Int) != (r : Int)) = false := by simp
  have HH := hide hh
  have HF := hide hf
  have HOL : Hid ((Hs.ownL R1 (Hs.hfC R1 ws) ws).length = q) := hide ((Hs.ownL_len _ _ _).trans HN.out)
  have HHF := hide fun (W : World) (t : TS W X Y r n'' gs ls) (ha : ARow W a ws) => shf_yes (c := c) HSP HSH (hide t) HR HN (hide ha) HF
  generalize Hs.ownL R1 (Hs.hfC R1 ws) ws = O at *
  generalize Hs.hfC R1 ws = C0 at *
  rw [Hs.unl_symm os O q]
  have HUL := hide (Hs.unl_le O os)
  have HD := hide (RC.new w (.slice (some ⟨X, 0, none⟩) r r) (.slice (some ⟨Y, 0, none⟩) n'' n'') (.slice a q c) (.slice b r d) (.slice o q e) 38 40)
  clear HG hh hf hl HOR hfl hn10'
  go_enter Tryz.func14, Tryz.ntmps14
  go_upto_region 1 with fail
  generalize (((w.alloc (.cells #[.slice (some ⟨X, 0, none⟩) r r, .slice (some ⟨Y, 0, none⟩) n'' n''] 38)).alloc (.cells #[.slice a q c, .slice b r d, .slice o q e] 40)).alloc (.cells #[.slice none 0 0, .slice none 0 0, .slice none 0 0] 40)) = W0 at *
  obtain ⟨s0, s1, _⟩ := HD.out.s
  go_wp2_with fail
  refine (lp_yes HSP HSH (hide (HT.out.below HD.out.b)) HR HFL).mono ?_
  rintro _ w1 ⟨p, f, rfl, hb1, _⟩
  have HD1 := hide (HD.out.below hb1)
  clear hb1 s0 s1
  obtain ⟨x0, x1, x2, _⟩ := HD1.out.h
  go_wp2_with fail
  refine (sgh17_eq HN HM hn HQ hq (hide (HA.out.below HD1.out.b)) (hide (HB.out.below HD1.out.b)) (hide (HO.out.below HD1.out.b)) HH).mono ?_
  rintro _ w2 ⟨rfl, hb2⟩
  have HD2 := hide (HD1.out.below hb2)
  clear hb2 x0 x1 x2
  obtain ⟨x0, x1, x2, _⟩ := HD2.out.h
  obtain ⟨s0, s1, _⟩ := HD2.out.s
  go_wp2_with fail
  refine (HHF.out _ (HT.out.below HD2.out.b) (HA.out.below HD2.out.b)).mono ?_
  rintro _ w3 ⟨v0, v1, v2, rfl, hb3, hv⟩
  have hv2 := hv.o2
  rw [HOL.out] at hv2
  obtain ⟨e0, f0, rfl⟩ := own_sh hv.o0
  obtain ⟨e1, f1, rfl⟩ := own_sh hv.o1
  obtain ⟨e2, f2, rfl⟩ := own_sh hv2
  have bn3 := below_new w3 (.cells #[.slice e0 ws.length f0, .slice e1 C0.length f1, .slice e2 q f2] 40)
  have HD3 := (HD2.out.below hb3).below bn3
  have HRS := hide (RS.mk (w := w) (va := .slice a q c) (vb := .slice b r d) (vc := .slice o q e) HD3.h (HBox.new w3 (.slice e0 ws.length f0) (.slice e1 C0.length f1) (.slice e2 q f2) 40) ⟨_, _, _, HD3.r⟩ HD3.f ((hv.low (Nat.succ_le_of_lt HD2.out.r.2.2.2)).below bn3) (Nat.le_trans (Nat.succ_le_of_lt HD2.out.r.2.2.2) hb3.size) HD3.b)
  have HX3 := hide HD3.r
  generalize hA : ws.length = A at *
  generalize hC : C0.length = C at *
  clear hb3 bn3 hv hv2 HD3 HD2 HD1 HD x0 x1 x2 s0 s1
  go_upto_region 5 with fail
  generalize w3.alloc (.cells #[.slice e0 A f0, .slice e1 C f1, .slice e2 q f2] 40) = W3 at *
  generalize w3.heap.size = D at *
  rw [show w.heap.size + 1 + 1 = w.heap.size + 2 from rfl]
  have RO := hide (HO.out.below HRS.out.b)
  have RN := hide (HRS.out.row2 HOL.out)
  obtain ⟨z0, z1, z2, _⟩ := HRS.out.n
  obtain ⟨x0, x1, x2, _⟩ := HRS.out.h
  go_wp2_with fail
  go_loop [11, 12, 13, 48] (fun s5 _ _ s => ∃ (k i : Nat), s = .int .i64 k ∧ s5 = .int .i64 i ∧ k ≤ q ∧ Hid (i = Hs.unl O os k)) (fun _ _ _ s => q - (intOf s).toNat)
  case atStart => exact ⟨0, 0, rfl, rfl, Nat.zero_le _, hide rfl⟩
  case round =>
    obtain ⟨k, i, rfl, rfl, hk, HMI⟩ := hrel
    by_cases hlt : k < q
    · obtain ⟨b1, o1, rfl, r1⟩ := RN.out.at (i := k) (by rw [HOL.out]; exact hlt)
      obtain ⟨b2, o2, rfl, r2⟩ := RO.out.at (i := k) (by rw [HQ.out]; exact hlt)
      have j0 : (0 : Int) ≤ (k : Int) := by omega
      have j1 : (k : Int) < (q : Int) := by omega
      have hi := HUL.out k
      have hI := HMI.out
      have HE : Hid (Hs.unl O os (k + 1) = if O.getD k 0 = os.getD k 0 then Hs.unl O os k else Hs.unl O os k + 1) := hide rfl
      generalize O.getD k 0 = x at *
      generalize os.getD k 0 = y at *
      rw [← hI] at hi
      by_cases hxy : x = y
      · have he' : (x != y) = false := by simp [hxy]
        have HN' : Hid (i = Hs.unl O os (k + 1)) := hide (by rw [HE.out, if_pos hxy]; exact hI)
        clear hI HE HMI
        go_wp2_with fail
        go_round
        case rel => exact ⟨k + 1, i, by go_num, rfl, by omega, HN'⟩
        case measure => simp only [intOf]; omega
      · have he' : (x != y) = true := by simp [hxy]
        have HN' : Hid (i + 1 = Hs.unl O os (k + 1)) := hide (by rw [HE.out, if_neg hxy, ← hI])
        clear hI HE HMI
        go_wp2_with fail
        go_round
        case rel => exact ⟨k + 1, i + 1, by go_num, by go_num, by omega, HN'⟩
        case measure => simp only [intOf]; omega
    · have hke : k = q := by omega
      subst hke
      have hI := HMI.out
      subst hI
      obtain ⟨y0, y1, y2, _⟩ := HX3.out
      have g0 := HRS.out.f 0
      have g1 := HRS.out.f 1
      have g2 := HRS.out.f 2
      have HP := hide (HRS.out.put (.slice e0 A f0) (.slice e1 C f1) (.slice e2 k f2))
      go_wp2_with fail
      exact bodyPost_ret (v := .tuple #[.agg #[.slice e0 A f0, .slice e1 C f1, .slice e2 k f2], .int .i64 (Hs.unl O os k), .bool true]) (by simp [results, Tryz.results14, go_sem, y0, y1, y2]) rfl ⟨_, _, _, rfl, HP.out.b, HP.out.V.low (by omega)⟩
end Go.Proofs.YtlbagigghpiifabGreat
