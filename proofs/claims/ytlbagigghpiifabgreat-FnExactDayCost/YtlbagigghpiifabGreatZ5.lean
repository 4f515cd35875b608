/-
  In one: Se15, Hr17, Hn17, Og, Ol, Os15, Op, Oh17.
-/
import Derived.Test.YtlbagigghpiifabGreatZ4
import Derived.Test.YtlbagigghpiifabGreatZ3
import Derived.Test.YtlbagigghpiifabGreatZ2
import Derived.Test.YtlbagigghpiifabGreatZ1
import Derived.ChangeSlices
import Derived.ProofKit
import Derived.OpenShut
import Derived.ChangeOld
import Derived.Below
import Derived.Deep.SlicePairs
import Derived.Deep.Strs
namespace Go.Proofs.YtlbagigghpiifabGreat
open Go.RowKit

/-- What both SheetProfiles answer. -/
def SpAns (f n n' r : Nat) (ok : Bool) (gs : List Gd) (ls : List (Int × Int)) (R1 R2 : List Int) : Prop :=
  ∀ (W : World) (X Y : Nat), Short gs → TS W X Y n n' gs ls →
    Calls Tryz.prog f #[.agg #[.slice (some ⟨X, 0, none⟩) n n, .slice (some ⟨Y, 0, none⟩) n' n']] W fun e w' => ∃ v1 v2, e = .returned (.tuple #[.agg #[v1, v2], .bool ok]) ∧ Below W.heap.size W w' ∧ w'.ownsRow W.heap.size 3 1 v1 r (ints R1) ∧ w'.ownsRow W.heap.size 3 1 v2 r (ints R2) ∧ ∀ g, v1.ownBlock = some g → v2.ownBlock ≠ some g
theorem own_two15 {w : World} {base B n : Nat} {v u0 u1 : Value} {xs : List Value} (h : w.ownsRow base 3 1 v n xs) (hB : B < base) : ((w.setCell ⟨B, 0, none⟩ u0).setCell ⟨B, 1, none⟩ u1).ownsRow base 3 1 v n xs :=
  ownsRow_setCell_below (ownsRow_setCell_below h (a := ⟨B, 0, none⟩) hB u0) (a := ⟨B, 1, none⟩) hB u1
set_option maxHeartbeats 2000000 in
theorem isp_any {n n' r : Nat} {ok : Bool} {gs : List Gd} {ls : List (Int × Int)} {R1 R2 : List Int} (Hi : Hid (PoAns 52 n n' r ok gs ls R1 R2)) : SpAns 28 n n' r ok gs ls R1 R2 := by
  intro W X Y hs t
  have HT := hide t
  have HSh := hide hs
  have b1 := below_new W (.cells #[.slice (some ⟨X, 0, none⟩) n n, .slice (some ⟨Y, 0, none⟩) n' n'] 38)
  have b2 := below_new (W.alloc (.cells #[.slice (some ⟨X, 0, none⟩) n n, .slice (some ⟨Y, 0, none⟩) n' n'] 38)) (.cells #[.slice none 0 0, .slice none 0 0] 61)
  have HB := hide (b1.trans (b2.mono b1.size))
  have PR := hide (PBox.new (W.alloc (.cells #[.slice (some ⟨X, 0, none⟩) n n, .slice (some ⟨Y, 0, none⟩) n' n'] 38)) (.slice none 0 0) (.slice none 0 0) 61)
  rw [World.size_alloc] at PR
  have FR : Hid (∀ i, ((W.alloc (.cells #[.slice (some ⟨X, 0, none⟩) n n, .slice (some ⟨Y, 0, none⟩) n' n'] 38)).alloc (.cells #[.slice none 0 0, .slice none 0 0] 61)).frozen? ⟨W.heap.size + 1, i, none⟩ = false) := hide fun i => by simp [go_sem]
  clear t hs b1 b2
  go_enter Tryz.func28, Tryz.ntmps28
  go_wp2_with fail
  refine (Hi.out _ _ _ HSh.out (HT.out.below HB.out).g (HT.out.below HB.out).l).mono ?_
  rintro e w1 ⟨vv1, vv2, rfl, hb1, o1, o2, hne⟩
  obtain ⟨a1, c1, rfl⟩ := own_sh o1
  obtain ⟨a2, c2, rfl⟩ := own_sh o2
  have e0 : ((W.alloc (.cells #[.slice (some ⟨X, 0, none⟩) n n, .slice (some ⟨Y, 0, none⟩) n' n'] 38)).alloc (.cells #[.slice none 0 0, .slice none 0 0] 61)).heap.size = W.heap.size + 1 + 1 := by simp
  rw [e0] at o1 o2
  obtain ⟨p0, p1, pl⟩ := PR.out.below hb1
  have f0 := (hb1.frozen (p := ⟨W.heap.size + 1, 0, none⟩) (by show W.heap.size + 1 < _; rw [e0]; omega)).trans (FR.out 0)
  have f1 := (hb1.frozen (p := ⟨W.heap.size + 1, 1, none⟩) (by show W.heap.size + 1 < _; rw [e0]; omega)).trans (FR.out 1)
  have HB1 := hide (HB.out.trans (hb1.mono HB.out.size))
  have O1 := hide (owns_low (own_two15 (B := W.heap.size + 1) (u0 := .slice a1 r c1) (u1 := .slice a2 r c2) o1 (by omega)) (base' := W.heap.size) (by omega))
  have O2 := hide (owns_low (own_two15 (B := W.heap.size + 1) (u0 := .slice a1 r c1) (u1 := .slice a2 r c2) o2 (by omega)) (base' := W.heap.size) (by omega))
  have HNE := hide hne
  have HBf := hide ((HB1.out.setCell (p := ⟨W.heap.size + 1, 0, none⟩) (by show W.heap.size ≤ W.heap.size + 1; omega) (.slice a1 r c1)).setCell (p := ⟨W.heap.size + 1, 1, none⟩) (by show W.heap.size ≤ W.heap.size + 1; omega) (.slice a2 r c2))
  clear o1 o2 hne hb1 e0
  go_wp2_with fail
  exact bodyPost_ret (v := .tuple #[.agg #[.slice a1 r c1, .slice a2 r c2], .bool ok]) (by simp [results, Tryz.results28, go_sem, p0, p1]) rfl ⟨_, _, rfl, HBf.out, O1.out, O2.out, HNE.out⟩
set_option maxHeartbeats 2000000 in
theorem ssp_no {n n' : Nat} {gs : List Gd} {ls : List (Int × Int)} (HN : Hid (gs.length = n)) (hn : n ≤ 1048576) (HL : Hid (ls.length = n')) (hn' : n' ≤ 1048576) (hg : sheetB gs ls = false) : SpAns 42 n n' 0 false gs ls [] [] := by
  intro W X Y hs t
  have HT := hide t
  have HSh := hide hs
  have HG := hide hg
  have b1 := below_new W (.cells #[.slice (some ⟨X, 0, none⟩) n n, .slice (some ⟨Y, 0, none⟩) n' n'] 38)
  have b2 := below_new (W.alloc (.cells #[.slice (some ⟨X, 0, none⟩) n n, .slice (some ⟨Y, 0, none⟩) n' n'] 38)) (.cells #[.slice none 0 0, .slice none 0 0] 61)
  have HB := hide (b1.trans (b2.mono b1.size))
  have PR := hide (PBox.new (W.alloc (.cells #[.slice (some ⟨X, 0, none⟩) n n, .slice (some ⟨Y, 0, none⟩) n' n'] 38)) (.slice none 0 0) (.slice none 0 0) 61)
  rw [World.size_alloc] at PR
  have FR : Hid (∀ i, ((W.alloc (.cells #[.slice (some ⟨X, 0, none⟩) n n, .slice (some ⟨Y, 0, none⟩) n' n'] 38)).alloc (.cells #[.slice none 0 0, .slice none 0 0] 61)).frozen? ⟨W.heap.size + 1, i, none⟩ = false) := hide fun i => by simp [go_sem]
  clear t hs b1 b2 hg
  go_enter Tryz.func42, Tryz.ntmps42
  go_wp2_with fail
  refine (sgsh_hid HG HN hn (Nat.le_refl _) HSh (hide (HT.out.below HB.out).g) HL hn' (Nat.le_refl _) (hide (HT.out.below HB.out).l)).mono ?_
  rintro e w1 ⟨rfl, hb1⟩
  have e0 : ((W.alloc (.cells #[.slice (some ⟨X, 0, none⟩) n n, .slice (some ⟨Y, 0, none⟩) n' n'] 38)).alloc (.cells #[.slice none 0 0, .slice none 0 0] 61)).heap.size = W.heap.size + 1 + 1 := by simp
  obtain ⟨p0, p1, pl⟩ := PR.out.below hb1
  have f0 := (hb1.frozen (p := ⟨W.heap.size + 1, 0, none⟩) (by show W.heap.size + 1 < _; rw [e0]; omega)).trans (FR.out 0)
  have f1 := (hb1.frozen (p := ⟨W.heap.size + 1, 1, none⟩) (by show W.heap.size + 1 < _; rw [e0]; omega)).trans (FR.out 1)
  have HB1 := hide (HB.out.trans (hb1.mono HB.out.size))
  have HBf := hide ((HB1.out.setCell (p := ⟨W.heap.size + 1, 0, none⟩) (by show W.heap.size ≤ W.heap.size + 1; omega) (.slice none 0 0)).setCell (p := ⟨W.heap.size + 1, 1, none⟩) (by show W.heap.size ≤ W.heap.size + 1; omega) (.slice none 0 0))
  clear hb1 e0
  go_wp2_with fail
  exact bodyPost_ret (v := .tuple #[.agg #[.slice none 0 0, .slice none 0 0], .bool false]) (by simp [results, Tryz.results42, go_sem, p0, p1]) rfl ⟨_, _, rfl, HBf.out, World.ownsRow_nil _ _ _ _, World.ownsRow_nil _ _ _ _, fun g hg => by cases hg⟩
set_option maxHeartbeats 2000000 in
theorem ssp_yes {n n' r : Nat} {ok : Bool} {gs : List Gd} {ls : List (Int × Int)} {R1 R2 : List Int} (HN : Hid (gs.length = n)) (hn : n ≤ 1048576) (HL : Hid (ls.length = n')) (hn' : n' ≤ 1048576) (hg : sheetB gs ls = true) (Hi : Hid (PoAns 67 n n' r ok gs ls R1 R2)) : SpAns 42 n n' r ok gs ls R1 R2 := by
  intro W X Y hs t
  have HT := hide t
  have HSh := hide hs
  have HG := hide hg
  have b1 := below_new W (.cells #[.slice (some ⟨X, 0, none⟩) n n, .slice (some ⟨Y, 0, none⟩) n' n'] 38)
  have PS1 := PBox.new W (.slice (some ⟨X, 0, none⟩) n n) (.slice (some ⟨Y, 0, none⟩) n' n') 38
  have b2 := below_new (W.alloc (.cells #[.slice (some ⟨X, 0, none⟩) n n, .slice (some ⟨Y, 0, none⟩) n' n'] 38)) (.cells #[.slice none 0 0, .slice none 0 0] 61)
  have PS := hide (PS1.below b2)
  have HB := hide (b1.trans (b2.mono b1.size))
  have PR := hide (PBox.new (W.alloc (.cells #[.slice (some ⟨X, 0, none⟩) n n, .slice (some ⟨Y, 0, none⟩) n' n'] 38)) (.slice none 0 0) (.slice none 0 0) 61)
  rw [World.size_alloc] at PR
  have FR : Hid (∀ i, ((W.alloc (.cells #[.slice (some ⟨X, 0, none⟩) n n, .slice (some ⟨Y, 0, none⟩) n' n'] 38)).alloc (.cells #[.slice none 0 0, .slice none 0 0] 61)).frozen? ⟨W.heap.size + 1, i, none⟩ = false) := hide fun i => by simp [go_sem]
  clear t hs b1 b2 hg PS1
  go_enter Tryz.func42, Tryz.ntmps42
  go_wp2_with fail
  refine (sgsh_hid HG HN hn (Nat.le_refl _) HSh (hide (HT.out.below HB.out).g) HL hn' (Nat.le_refl _) (hide (HT.out.below HB.out).l)).mono ?_
  rintro e w1 ⟨rfl, hb1⟩
  have e0 : ((W.alloc (.cells #[.slice (some ⟨X, 0, none⟩) n n, .slice (some ⟨Y, 0, none⟩) n' n'] 38)).alloc (.cells #[.slice none 0 0, .slice none 0 0] 61)).heap.size = W.heap.size + 1 + 1 := by simp
  have z1 := hb1.size
  rw [e0] at z1
  have PS2 := hide (PS.out.below hb1)
  have PR2 := hide (PR.out.below hb1)
  have FR2 : Hid (∀ i, w1.frozen? ⟨W.heap.size + 1, i, none⟩ = false) := hide fun i => (hb1.frozen (p := ⟨W.heap.size + 1, i, none⟩) (by show W.heap.size + 1 < _; rw [e0]; omega)).trans (FR.out i)
  have HB1 := hide (HB.out.trans (hb1.mono HB.out.size))
  clear hb1 e0 PS PR FR
  obtain ⟨s0, s1, sl⟩ := PS2.out
  go_wp2_with fail
  refine (Hi.out _ _ _ HSh.out (HT.out.below HB1.out).g (HT.out.below HB1.out).l).mono ?_
  rintro e w2 ⟨vv1, vv2, rfl, hb2, o1, o2, hne⟩
  obtain ⟨a1, c1, rfl⟩ := own_sh o1
  obtain ⟨a2, c2, rfl⟩ := own_sh o2
  obtain ⟨p0, p1, pl⟩ := PR2.out.below hb2
  have f0 := (hb2.frozen (p := ⟨W.heap.size + 1, 0, none⟩) (by show W.heap.size + 1 < _; omega)).trans (FR2.out 0)
  have f1 := (hb2.frozen (p := ⟨W.heap.size + 1, 1, none⟩) (by show W.heap.size + 1 < _; omega)).trans (FR2.out 1)
  have HB2 := hide (HB1.out.trans (hb2.mono HB1.out.size))
  have O1 := hide (owns_low (own_two15 (B := W.heap.size + 1) (u0 := .slice a1 r c1) (u1 := .slice a2 r c2) o1 (by omega)) (base' := W.heap.size) (by omega))
  have O2 := hide (owns_low (own_two15 (B := W.heap.size + 1) (u0 := .slice a1 r c1) (u1 := .slice a2 r c2) o2 (by omega)) (base' := W.heap.size) (by omega))
  have HNE := hide hne
  have HBf := hide ((HB2.out.setCell (p := ⟨W.heap.size + 1, 0, none⟩) (by show W.heap.size ≤ W.heap.size + 1; omega) (.slice a1 r c1)).setCell (p := ⟨W.heap.size + 1, 1, none⟩) (by show W.heap.size ≤ W.heap.size + 1; omega) (.slice a2 r c2))
  clear o1 o2 hne hb2 s0 s1 sl z1
  go_wp2_with fail
  exact bodyPost_ret (v := .tuple #[.agg #[.slice a1 r c1, .slice a2 r c2], .bool ok]) (by simp [results, Tryz.results42, go_sem, p0, p1]) rfl ⟨_, _, rfl, HBf.out, O1.out, O2.out, HNE.out⟩
theorem sp_both {gs : List Gd} {ls : List (Int × Int)} (h : gs.length ≤ 1048576) (h' : ls.length ≤ 1048576) : ∃ (r : Nat) (ok : Bool) (R1 R2 : List Int), R1.length = r ∧ R2.length = r ∧ r ≤ 1000 ∧ SpAns 42 gs.length ls.length r ok gs ls R1 R2 ∧ SpAns 28 gs.length ls.length r ok gs ls R1 R2 := by
  cases hg : goodsB gs with
  | false =>
    exact ⟨0, false, [], [], rfl, rfl, by omega, ssp_no (hide rfl) h (hide rfl) h' (by rw [sheetB, hg]; rfl), isp_any (hide (poans_none fun W b b' h1 h2 h3 => po_bad1 rfl (Nat.le_refl _) h1 h2 hg))⟩
  | true =>
    cases hlb : linesB gs.length ls with
    | false =>
      exact ⟨0, false, [], [], rfl, rfl, by omega, ssp_no (hide rfl) h (hide rfl) h' (by rw [sheetB, hg, hlb]; rfl), isp_any (hide (poans_none fun W b b' h1 h2 h3 => po_bad2 rfl (Nat.le_refl _) h1 h2 hg rfl h3 hlb))⟩
    | true =>
      have h12 := goodsB_len hg
      exact ⟨gs.length, true, _, _, picks_len _ _, flow_len _ _, by omega, ssp_yes (hide rfl) h (hide rfl) h' (by rw [sheetB, hg, hlb]; rfl) (hide (poans_some fun W b b' h1 h2 h3 => spo_good rfl h (Nat.le_refl _) h1 h2 hg rfl h3 hlb)), isp_any (hide (poans_some fun W b b' h1 h2 h3 => po_good rfl (Nat.le_refl _) h1 h2 hg rfl h3 hlb))⟩
end Go.Proofs.YtlbagigghpiifabGreat
namespace Go.Proofs.YtlbagigghpiifabGreat
open Go.RowKit

/-- What both SheetProfiles answer; where they refuse there are no picks. -/
theorem sp_both17 {gs : List Gd} {ls : List (Int × Int)} (h : gs.length ≤ 1048576) (h' : ls.length ≤ 1048576) : ∃ (r : Nat) (ok : Bool) (R1 R2 : List Int), (ok = false → R1 = []) ∧ (ok = true → r = gs.length) ∧ R1.length = r ∧ R2.length = r ∧ r ≤ 1000 ∧ SpAns 42 gs.length ls.length r ok gs ls R1 R2 ∧ SpAns 28 gs.length ls.length r ok gs ls R1 R2 := by
  cases hg : goodsB gs with
  | false =>
    exact ⟨0, false, [], [], fun _ => rfl, fun h => (by cases h), rfl, rfl, by omega, ssp_no (hide rfl) h (hide rfl) h' (by rw [sheetB, hg]; rfl), isp_any (hide (poans_none fun W b b' h1 h2 h3 => po_bad1 rfl (Nat.le_refl _) h1 h2 hg))⟩
  | true =>
    cases hlb : linesB gs.length ls with
    | false =>
      exact ⟨0, false, [], [], fun _ => rfl, fun h => (by cases h), rfl, rfl, by omega, ssp_no (hide rfl) h (hide rfl) h' (by rw [sheetB, hg, hlb]; rfl), isp_any (hide (poans_none fun W b b' h1 h2 h3 => po_bad2 rfl (Nat.le_refl _) h1 h2 hg rfl h3 hlb))⟩
    | true =>
      have h12 := goodsB_len hg
      exact ⟨gs.length, true, _, _, fun h => (by cases h), fun _ => rfl, picks_len _ _, flow_len _ _, by omega, ssp_yes (hide rfl) h (hide rfl) h' (by rw [sheetB, hg, hlb]; rfl) (hide (poans_some fun W b b' h1 h2 h3 => spo_good rfl h (Nat.le_refl _) h1 h2 hg rfl h3 hlb)), isp_any (hide (poans_some fun W b b' h1 h2 h3 => po_good rfl (Nat.le_refl _) h1 h2 hg rfl h3 hlb))⟩
/-- What lies as DayCost begins: the sheet, the house, the answer's variable. -/
structure DC (w : World) (va vb vc : Value) (W : World) : Prop where
  h : HBox W (w.heap.size + 1) va vb vc
  c0 : W.cell? ⟨w.heap.size + 2, 0, none⟩ = some (.int .i64 0)
  c1 : W.cell? ⟨w.heap.size + 2, 1, none⟩ = some (.int .i64 0)
  f0 : W.frozen? ⟨w.heap.size + 2, 0, none⟩ = false
  f1 : W.frozen? ⟨w.heap.size + 2, 1, none⟩ = false
  lt : w.heap.size + 2 < W.heap.size
  b : Below w.heap.size w W
theorem DC.below {w W W' : World} {va vb vc : Value} (h : DC w va vb vc W) (hb : Below W.heap.size W W') : DC w va vb vc W' :=
  ⟨h.h.below hb, (hb.cell (p := ⟨w.heap.size + 2, 0, none⟩) h.lt).trans h.c0, (hb.cell (p := ⟨w.heap.size + 2, 1, none⟩) h.lt).trans h.c1, (hb.frozen (p := ⟨w.heap.size + 2, 0, none⟩) h.lt).trans h.f0, (hb.frozen (p := ⟨w.heap.size + 2, 1, none⟩) h.lt).trans h.f1, Nat.lt_of_lt_of_le h.lt hb.size, h.b.trans (hb.mono h.b.size)⟩
theorem DC.new (w : World) (o : Obj) (va vb vc : Value) (t u : TypeId) : DC w va vb vc (((w.alloc o).alloc (.cells #[va, vb, vc] t)).alloc (.cells #[.int .i64 0, .int .i64 0] u)) := by
  have b0 := below_new w o
  have b1 := below_new (w.alloc o) (.cells #[va, vb, vc] t)
  have b2 := below_new ((w.alloc o).alloc (.cells #[va, vb, vc] t)) (.cells #[.int .i64 0, .int .i64 0] u)
  have h0 := (HBox.new (w.alloc o) va vb vc t).below b2
  rw [World.size_alloc] at h0
  have hz : ((w.alloc o).alloc (.cells #[va, vb, vc] t)).heap.size = w.heap.size + 2 := by simp
  have hc : ∀ (i : Nat), (((w.alloc o).alloc (.cells #[va, vb, vc] t)).alloc (.cells #[.int .i64 0, .int .i64 0] u)).cell? ⟨w.heap.size + 2, i, none⟩ = (((w.alloc o).alloc (.cells #[va, vb, vc] t)).alloc (.cells #[.int .i64 0, .int .i64 0] u)).cell? ⟨((w.alloc o).alloc (.cells #[va, vb, vc] t)).heap.size, i, none⟩ := fun i => by rw [hz]
  have hf : ∀ (i : Nat), (((w.alloc o).alloc (.cells #[va, vb, vc] t)).alloc (.cells #[.int .i64 0, .int .i64 0] u)).frozen? ⟨w.heap.size + 2, i, none⟩ = (((w.alloc o).alloc (.cells #[va, vb, vc] t)).alloc (.cells #[.int .i64 0, .int .i64 0] u)).frozen? ⟨((w.alloc o).alloc (.cells #[va, vb, vc] t)).heap.size, i, none⟩ := fun i => by rw [hz]
  exact ⟨h0, (hc 0).trans (by simp [go_sem]), (hc 1).trans (by simp [go_sem]), (hf 0).trans (by simp [go_sem]), (hf 1).trans (by simp [go_sem]), by simp, b0.trans ((b1.trans (b2.mono (by simp))).mono (by simp))⟩
theorem DC.res {w W : World} {va vb vc : Value} (h : DC w va vb vc W) (u v : Value) : Below w.heap.size w ((W.setCell ⟨w.heap.size + 2, 0, none⟩ u).setCell ⟨w.heap.size + 2, 1, none⟩ v) :=
  (h.b.setCell (p := ⟨w.heap.size + 2, 0, none⟩) (by show w.heap.size ≤ w.heap.size + 2; omega) u).setCell (p := ⟨w.heap.size + 2, 1, none⟩) (by show w.heap.size ≤ w.heap.size + 2; omega) v
set_option maxHeartbeats 4000000 in
theorem dc_any {n' n'' r : Nat} {ok : Bool} {gs : List Gd} {ls : List (Int × Int)} {R1 R2 : List Int} {a b o : Option Addr} {n m q c d e X Y : Nat} {ws cs os : List Int} {w : World} (HSP : Hid (SpAns 28 n' n'' r ok gs ls R1 R2)) (HSH : Hid (Short gs)) (HT : Hid (TS w X Y n' n'' gs ls)) (HR : Hid (R1.length = r))
    (HN : Hid (ws.length = n)) (HM : Hid (cs.length = m)) (HQ : Hid (os.length = q)) (hq : q ≤ 1048576) (HA : Hid (ARow w a ws)) (HB : Hid (ARow w b cs)) (HO : Hid (ARow w o os)) :
    Calls Tryz.prog 10 #[.agg #[.slice (some ⟨X, 0, none⟩) n' n', .slice (some ⟨Y, 0, none⟩) n'' n''], .agg #[.slice a n c, .slice b m d, .slice o q e]] w fun e w' => e = .returned (fb (Hs.trF R1 cs ws os) (Hs.trG R1 cs ws os)) ∧ Below w.heap.size w w' := by
  have HD := hide (DC.new w (.cells #[.slice (some ⟨X, 0, none⟩) n' n', .slice (some ⟨Y, 0, none⟩) n'' n''] 38) (.slice a n c) (.slice b m d) (.slice o q e) 40 32)
  have HTR := hide fun (W : World) (p : Option Addr) (f : Nat) (hp : ARow W p R1) (ha : ARow W a ws) (hb : ARow W b cs) (ho : ARow W o os) => tr_any (c := c) (d := d) (e := e) (f := f) HR HM HN HQ hq (hide hp) (hide hb) (hide ha) (hide ho)
  simp only [fb_eq] at HTR
  obtain ⟨q1, q2, hpq⟩ : ∃ q1 q2, Hs.trF R1 cs ws os = (q1, q2) := ⟨_, _, rfl⟩
  rw [hpq] at HTR ⊢
  generalize Hs.trG R1 cs ws os = qb at *
  clear hpq
  go_enter Tryz.func10, Tryz.ntmps10
  go_wp2_with fail
  generalize (((w.alloc (.cells #[.slice (some ⟨X, 0, none⟩) n' n', .slice (some ⟨Y, 0, none⟩) n'' n''] 38)).alloc (.cells #[.slice a n c, .slice b m d, .slice o q e] 40)).alloc (.cells #[.int .i64 0, .int .i64 0] 32)) = W0 at *
  refine (HSP.out _ _ _ HSH.out (HT.out.below HD.out.b)).mono ?_
  rintro _ w1 ⟨vv1, vv2, rfl, hb1, o1, o2, _⟩
  obtain ⟨a1, c1, rfl⟩ := own_sh o1
  obtain ⟨a2, c2, rfl⟩ := own_sh o2
  have bn := below_new w1 (.cells #[.slice a1 r c1, .slice a2 r c2] 61)
  obtain ⟨a1', c1', e1, hr1⟩ := own_any7 HR.out (own_below o1 bn)
  cases e1
  have HR1 := hide hr1
  have PB := hide (PBox.new w1 (.slice a1 r c1) (.slice a2 r c2) 61)
  have HD1 := hide ((HD.out.below hb1).below bn)
  obtain ⟨x0, x1, x2, _⟩ := HD1.out.h
  obtain ⟨p0, p1, _⟩ := PB.out
  clear hb1 o1 o2 bn hr1
  go_wp2_with fail
  generalize w1.alloc (.cells #[.slice a1 r c1, .slice a2 r c2] 61) = W1 at *
  refine (HTR.out _ _ _ HR1.out (HA.out.below HD1.out.b) (HB.out.below HD1.out.b) (HO.out.below HD1.out.b)).mono ?_
  rintro _ w2 ⟨rfl, hb2⟩
  have HD2 := HD1.out.below hb2
  have c0 := HD2.c0
  have c1 := HD2.c1
  have g0 := HD2.f0
  have g1 := HD2.f1
  clear hb2 x0 x1 x2 p0 p1
  go_wp2_with fail
  exact bodyPost_ret (v := fb (q1, q2) qb) (by simp [results, Tryz.results10, go_sem, c0, c1, fb]) rfl ⟨rfl, HD2.res _ _⟩
set_option maxHeartbeats 2000000 in
theorem lp_no {n' n'' r : Nat} {ok : Bool} {gs : List Gd} {ls : List (Int × Int)} {R1 R2 : List Int} {X Y : Nat} {w : World} (HSP : Hid (SpAns 42 n' n'' r ok gs ls R1 R2)) (HSH : Hid (Short gs)) (HT : Hid (TS w X Y n' n'' gs ls)) (HR : Hid (R1.length = r)) (HG : Hid ((ok && Sh.flowB R1) = false)) :
    Calls Tryz.prog 22 #[.agg #[.slice (some ⟨X, 0, none⟩) n' n', .slice (some ⟨Y, 0, none⟩) n'' n'']] w fun e w' => e = .returned (.tuple #[.slice none 0 0, .bool false]) ∧ Below w.heap.size w w' := by
  have HB0 := hide (below_new w (.cells #[.slice (some ⟨X, 0, none⟩) n' n', .slice (some ⟨Y, 0, none⟩) n'' n''] 38))
  go_enter Tryz.func22, Tryz.ntmps22
  go_wp2_with fail
  refine (HSP.out _ _ _ HSH.out (HT.out.below HB0.out)).mono ?_
  rintro _ w1 ⟨vv1, vv2, rfl, hb1, o1, o2, _⟩
  obtain ⟨a1, c1, rfl⟩ := own_sh o1
  obtain ⟨a2, c2, rfl⟩ := own_sh o2
  have bn := below_new w1 (.cells #[.slice a1 r c1, .slice a2 r c2] 61)
  obtain ⟨a1', c1', e1, hr1⟩ := own_any7 HR.out (own_below o1 bn)
  cases e1
  have HR1 := hide hr1
  have PB := hide (PBox.new w1 (.slice a1 r c1) (.slice a2 r c2) 61)
  have HB1 := hide ((HB0.out.trans (hb1.mono HB0.out.size)).trans (bn.mono (HB0.out.trans (hb1.mono HB0.out.size)).size))
  obtain ⟨p0, p1, _⟩ := PB.out
  clear hb1 o1 o2 bn hr1
  cases ok
  · go_wp2_with fail
    go_ret2
    exact ⟨rfl, HB1.out⟩
  · have HF : Hid (Sh.flowB R1 = false) := hide (by have := HG.out; rwa [Bool.true_and] at this)
    go_wp2_with fail
    refine (sflows_eq HR1 HR HF).mono ?_
    rintro _ w2 ⟨rfl, rfl⟩
    go_wp2_with fail
    go_ret2
    exact ⟨rfl, HB1.out⟩
set_option maxHeartbeats 2000000 in
theorem lp_yes {n' n'' r : Nat} {gs : List Gd} {ls : List (Int × Int)} {R1 R2 : List Int} {X Y : Nat} {w : World} (HSP : Hid (SpAns 42 n' n'' r true gs ls R1 R2)) (HSH : Hid (Short gs)) (HT : Hid (TS w X Y n' n'' gs ls)) (HR : Hid (R1.length = r)) (HF : Hid (Sh.flowB R1 = true)) :
    Calls Tryz.prog 22 #[.agg #[.slice (some ⟨X, 0, none⟩) n' n', .slice (some ⟨Y, 0, none⟩) n'' n'']] w fun e w' => ∃ p f, e = .returned (.tuple #[.slice p r f, .bool true]) ∧ Below w.heap.size w w' ∧ ARow w' p R1 := by
  have HB0 := hide (below_new w (.cells #[.slice (some ⟨X, 0, none⟩) n' n', .slice (some ⟨Y, 0, none⟩) n'' n''] 38))
  go_enter Tryz.func22, Tryz.ntmps22
  go_wp2_with fail
  refine (HSP.out _ _ _ HSH.out (HT.out.below HB0.out)).mono ?_
  rintro _ w1 ⟨vv1, vv2, rfl, hb1, o1, o2, _⟩
  obtain ⟨a1, c1, rfl⟩ := own_sh o1
  obtain ⟨a2, c2, rfl⟩ := own_sh o2
  have bn := below_new w1 (.cells #[.slice a1 r c1, .slice a2 r c2] 61)
  obtain ⟨a1', c1', e1, hr1⟩ := own_any7 HR.out (own_below o1 bn)
  cases e1
  have HR1 := hide hr1
  have PB := hide (PBox.new w1 (.slice a1 r c1) (.slice a2 r c2) 61)
  have HB1 := hide ((HB0.out.trans (hb1.mono HB0.out.size)).trans (bn.mono (HB0.out.trans (hb1.mono HB0.out.size)).size))
  obtain ⟨p0, p1, _⟩ := PB.out
  clear hb1 o1 o2 bn hr1
  go_wp2_with fail
  refine (sflows_eq HR1 HR HF).mono ?_
  rintro _ w2 ⟨rfl, rfl⟩
  go_wp2_with fail
  go_ret2
  exact ⟨_, _, rfl, HB1.out, HR1.out⟩
namespace Hs
theorem tr_split (ps cs ws os : List Int) : trB ps cs ws os = (Sh.flowB ps && (houseB ws cs os && decide (ps.length = cs.length))) := by
  unfold trB dayB houseB
  cases Sh.flowB ps <;> cases slotsB cs ws <;> cases fitB cs os <;> cases decide (ps.length = cs.length) <;> rfl
theorem tr_none {ps cs ws os : List Int} (h : trB ps cs ws os = false) : trF ps cs ws os = (0, 0) ∧ trG ps cs ws os = false := by
  unfold trF trG
  rw [h]
  exact ⟨by simp, rfl⟩
end Hs
set_option maxHeartbeats 4000000 in
theorem sdc_any {n' n'' r : Nat} {ok : Bool} {gs : List Gd} {ls : List (Int × Int)} {R1 R2 : List Int} {a b o : Option Addr} {n m q c d e X Y : Nat} {ws cs os : List Int} {w : World} (HSP : Hid (SpAns 42 n' n'' r ok gs ls R1 R2)) (HOK : Hid (ok = false → R1 = [])) (HSH : Hid (Short gs)) (HT : Hid (TS w X Y n' n'' gs ls)) (HR : Hid (R1.length = r))
    (HN : Hid (ws.length = n)) (hn : n ≤ 1048576) (HM : Hid (cs.length = m)) (HQ : Hid (os.length = q)) (hq : q ≤ 1048576) (HA : Hid (ARow w a ws)) (HB : Hid (ARow w b cs)) (HO : Hid (ARow w o os)) :
    Calls Tryz.prog 7 #[.agg #[.slice (some ⟨X, 0, none⟩) n' n', .slice (some ⟨Y, 0, none⟩) n'' n''], .agg #[.slice a n c, .slice b m d, .slice o q e]] w fun e w' => e = .returned (fb (Hs.trF R1 cs ws os) (Hs.trG R1 cs ws os)) ∧ Below w.heap.size w w' := by
  have HD := hide (DC.new w (.cells #[.slice (some ⟨X, 0, none⟩) n' n', .slice (some ⟨Y, 0, none⟩) n'' n''] 38) (.slice a n c) (.slice b m d) (.slice o q e) 40 32)
  have HTR := hide fun (W : World) (p : Option Addr) (f : Nat) (hp : ARow W p R1) (ha : ARow W a ws) (hb : ARow W b cs) (ho : ARow W o os) => str_any (c := c) (d := d) (e := e) (f := f) HR HM HN hn HQ hq (hide hp) (hide hb) (hide ha) (hide ho)
  simp only [fb_eq] at HTR
  have HSPL := hide (Hs.tr_split R1 cs ws os)
  have HNO : Hid (Hs.trB R1 cs ws os = false → Hs.trF R1 cs ws os = (0, 0) ∧ Hs.trG R1 cs ws os = false) := hide Hs.tr_none
  cases hp : (ok && Sh.flowB R1)
  · have hf : Sh.flowB R1 = false := by
      cases ok
      · rw [HOK.out rfl]; rfl
      · rwa [Bool.true_and] at hp
    obtain ⟨e1, e2⟩ := HNO.out (by rw [HSPL.out, hf]; rfl)
    rw [e1, e2]
    have HP := hide hp
    clear hp hf HTR HNO HSPL e1 e2
    go_enter Tryz.func7, Tryz.ntmps7
    go_wp2_with fail
    generalize (((w.alloc (.cells #[.slice (some ⟨X, 0, none⟩) n' n', .slice (some ⟨Y, 0, none⟩) n'' n''] 38)).alloc (.cells #[.slice a n c, .slice b m d, .slice o q e] 40)).alloc (.cells #[.int .i64 0, .int .i64 0] 32)) = W0 at *
    refine (lp_no HSP HSH (hide (HT.out.below HD.out.b)) HR HP).mono ?_
    rintro _ w1 ⟨rfl, hb1⟩
    have HD1 := HD.out.below hb1
    have c0 := HD1.c0
    have c1 := HD1.c1
    have g0 := HD1.f0
    have g1 := HD1.f1
    clear hb1
    go_wp2_with fail
    exact bodyPost_ret (v := fb (0, 0) false) (by simp [results, Tryz.results7, go_sem, c0, c1, fb]) rfl ⟨rfl, HD1.res _ _⟩
  · rw [Bool.and_eq_true] at hp
    obtain ⟨rfl, hf⟩ := hp
    have HF := hide hf
    cases hh : Hs.houseB ws cs os
    · obtain ⟨e1, e2⟩ := HNO.out (by rw [HSPL.out, hf, hh]; rfl)
      rw [e1, e2]
      have HH := hide hh
      clear hf hh HTR HNO HSPL e1 e2
      go_enter Tryz.func7, Tryz.ntmps7
      go_wp2_with fail
      generalize (((w.alloc (.cells #[.slice (some ⟨X, 0, none⟩) n' n', .slice (some ⟨Y, 0, none⟩) n'' n''] 38)).alloc (.cells #[.slice a n c, .slice b m d, .slice o q e] 40)).alloc (.cells #[.int .i64 0, .int .i64 0] 32)) = W0 at *
      refine (lp_yes HSP HSH (hide (HT.out.below HD.out.b)) HR HF).mono ?_
      rintro _ w1 ⟨p, f, rfl, hb1, hr1⟩
      have HD1 := hide (HD.out.below hb1)
      obtain ⟨x0, x1, x2, _⟩ := HD1.out.h
      clear hb1 hr1
      go_wp2_with fail
      refine (sgh17_eq HN HM hn HQ hq (hide (HA.out.below HD1.out.b)) (hide (HB.out.below HD1.out.b)) (hide (HO.out.below HD1.out.b)) HH).mono ?_
      rintro _ w2 ⟨rfl, hb2⟩
      have HD2 := HD1.out.below hb2
      have c0 := HD2.c0
      have c1 := HD2.c1
      have g0 := HD2.f0
      have g1 := HD2.f1
      clear hb2 x0 x1 x2
      go_wp2_with fail
      exact bodyPost_ret (v := fb (0, 0) false) (by simp [results, Tryz.results7, go_sem, c0, c1, fb]) rfl ⟨rfl, HD2.res _ _⟩
    · have HH := hide hh
      by_cases hm : r = m
      · have he : ((r : Int) != (m : Int)) = false := by simp; omega
        obtain ⟨q1, q2, hpq⟩ : ∃ q1 q2, Hs.trF R1 cs ws os = (q1, q2) := ⟨_, _, rfl⟩
        rw [hpq] at HTR ⊢
        generalize Hs.trG R1 cs ws os = qb at *
        clear hf hh HNO HSPL hpq hm
        go_enter Tryz.func7, Tryz.ntmps7
        go_wp2_with fail
        generalize (((w.alloc (.cells #[.slice (some ⟨X, 0, none⟩) n' n', .slice (some ⟨Y, 0, none⟩) n'' n''] 38)).alloc (.cells #[.slice a n c, .slice b m d, .slice o q e] 40)).alloc (.cells #[.int .i64 0, .int .i64 0] 32)) = W0 at *
        refine (lp_yes HSP HSH (hide (HT.out.below HD.out.b)) HR HF).mono ?_
        rintro _ w1 ⟨p, f, rfl, hb1, hr1⟩
        have HD1 := hide (HD.out.below hb1)
        have HR1 := hide hr1
        obtain ⟨x0, x1, x2, _⟩ := HD1.out.h
        clear hb1 hr1
        go_wp2_with fail
        refine (sgh17_eq HN HM hn HQ hq (hide (HA.out.below HD1.out.b)) (hide (HB.out.below HD1.out.b)) (hide (HO.out.below HD1.out.b)) HH).mono ?_
        rintro _ w2 ⟨rfl, hb2⟩
        have HD2 := hide (HD1.out.below hb2)
        have HR2 := hide (HR1.out.below hb2)
        clear hb2 x0 x1 x2
        obtain ⟨x0, x1, x2, _⟩ := HD2.out.h
        go_wp2_with fail
        refine (HTR.out _ _ _ HR2.out (HA.out.below HD2.out.b) (HB.out.below HD2.out.b) (HO.out.below HD2.out.b)).mono ?_
        rintro _ w3 ⟨rfl, hb3⟩
        have HD3 := HD2.out.below hb3
        have c0 := HD3.c0
        have c1 := HD3.c1
        have g0 := HD3.f0
        have g1 := HD3.f1
        clear hb3 x0 x1 x2
        go_wp2_with fail
        exact bodyPost_ret (v := fb (q1, q2) qb) (by simp [results, Tryz.results7, go_sem, c0, c1, fb]) rfl ⟨rfl, HD3.res _ _⟩
      · have he : ((r : Int) != (m : Int)) = true := by simp; omega
        obtain ⟨e1, e2⟩ := HNO.out (by rw [HSPL.out, hf, hh, HR.out, HM.out]; simp [hm])
        rw [e1, e2]
        clear hf hh HTR HNO HSPL e1 e2 hm
        go_enter Tryz.func7, Tryz.ntmps7
        go_wp2_with fail
        generalize (((w.alloc (.cells #[.slice (some ⟨X, 0, none⟩) n' n', .slice (some ⟨Y, 0, none⟩) n'' n''] 38)).alloc (.cells #[.slice a n c, .slice b m d, .slice o q e] 40)).alloc (.cells #[.int .i64 0, .int .i64 0] 32)) = W0 at *
        refine (lp_yes HSP HSH (hide (HT.out.below HD.out.b)) HR HF).mono ?_
        rintro _ w1 ⟨p, f, rfl, hb1, hr1⟩
        have HD1 := hide (HD.out.below hb1)
        obtain ⟨x0, x1, x2, _⟩ := HD1.out.h
        clear hb1 hr1
        go_wp2_with fail
        refine (sgh17_eq HN HM hn HQ hq (hide (HA.out.below HD1.out.b)) (hide (HB.out.below HD1.out.b)) (hide (HO.out.below HD1.out.b)) HH).mono ?_
        rintro _ w2 ⟨rfl, hb2⟩
        have HD2 := HD1.out.below hb2
        have c0 := HD2.c0
        have c1 := HD2.c1
        have g0 := HD2.f0
        have g1 := HD2.f1
        clear x0 x1 x2
        obtain ⟨x0, x1, x2, _⟩ := HD2.h
        clear hb2
        go_wp2_with fail
        exact bodyPost_ret (v := fb (0, 0) false) (by simp [results, Tryz.results7, go_sem, c0, c1, fb]) rfl ⟨rfl, HD2.res _ _⟩
end Go.Proofs.YtlbagigghpiifabGreat
namespace Go.Proofs.YtlbagigghpiifabGreat
open Go.RowKit

/-- What lies while a house is copied: the one that is handed in, the answer's variable, the one that is made. -/
structure TH (w : World) (va vb vc o0 o1 o2 : Value) (W : World) : Prop where
  a : HBox W w.heap.size va vb vc
  r : HBox W (w.heap.size + 1) (.slice none 0 0) (.slice none 0 0) (.slice none 0 0)
  o : HBox W (w.heap.size + 1 + 1) o0 o1 o2
  fr : ∀ i, W.frozen? ⟨w.heap.size + 1, i, none⟩ = false
  fo : ∀ i, W.frozen? ⟨w.heap.size + 1 + 1, i, none⟩ = false
  b : Below w.heap.size w W
theorem TH.below {w W W' : World} {va vb vc o0 o1 o2 : Value} (h : TH w va vb vc o0 o1 o2 W) (hb : Below W.heap.size W W') : TH w va vb vc o0 o1 o2 W' :=
  ⟨h.a.below hb, h.r.below hb, h.o.below hb, fun i => (hb.frozen (p := ⟨w.heap.size + 1, i, none⟩) h.r.2.2.2).trans (h.fr i), fun i => (hb.frozen (p := ⟨w.heap.size + 1 + 1, i, none⟩) h.o.2.2.2).trans (h.fo i), h.b.trans (hb.mono h.b.size)⟩
theorem hbox_far {W : World} {B C i : Nat} {v0 v1 v2 v : Value} (h : HBox W B v0 v1 v2) (hne : B ≠ C) : HBox (W.setCell ⟨C, i, none⟩ v) B v0 v1 v2 := by
  have k : ∀ j, (W.setCell ⟨C, i, none⟩ v).cell? ⟨B, j, none⟩ = W.cell? ⟨B, j, none⟩ := fun j => World.cell?_setCell_other _ _ _ _ (fun e => hne (by injection e with e1; exact e1.symm))
  exact ⟨(k 0).trans h.1, (k 1).trans h.2.1, (k 2).trans h.2.2.1, by simpa using h.2.2.2⟩
theorem TH.set0 {w W : World} {va vb vc o0 o1 o2 : Value} (h : TH w va vb vc o0 o1 o2 W) (v : Value) : TH w va vb vc v o1 o2 (W.setCell ⟨w.heap.size + 1 + 1, 0, none⟩ v) :=
  ⟨hbox_far h.a (by omega), hbox_far h.r (by omega), ⟨World.cell?_setCell_same _ _ _ h.o.1, (World.cell?_setCell_other _ _ _ _ (by simp)).trans h.o.2.1, (World.cell?_setCell_other _ _ _ _ (by simp)).trans h.o.2.2.1, by simpa using h.o.2.2.2⟩, fun i => (World.frozen?_setCell ..).trans (h.fr i), fun i => (World.frozen?_setCell ..).trans (h.fo i), h.b.setCell (by show w.heap.size ≤ w.heap.size + 1 + 1; omega) v⟩
theorem TH.set1 {w W : World} {va vb vc o0 o1 o2 : Value} (h : TH w va vb vc o0 o1 o2 W) (v : Value) : TH w va vb vc o0 v o2 (W.setCell ⟨w.heap.size + 1 + 1, 1, none⟩ v) :=
  ⟨hbox_far h.a (by omega), hbox_far h.r (by omega), ⟨(World.cell?_setCell_other _ _ _ _ (by simp)).trans h.o.1, World.cell?_setCell_same _ _ _ h.o.2.1, (World.cell?_setCell_other _ _ _ _ (by simp)).trans h.o.2.2.1, by simpa using h.o.2.2.2⟩, fun i => (World.frozen?_setCell ..).trans (h.fr i), fun i => (World.frozen?_setCell ..).trans (h.fo i), h.b.setCell (by show w.heap.size ≤ w.heap.size + 1 + 1; omega) v⟩
theorem TH.new (w : World) (va vb vc : Value) (t u : TypeId) : TH w va vb vc (.slice none 0 0) (.slice none 0 0) (.slice none 0 0) (((w.alloc (.cells #[va, vb, vc] t)).alloc (.cells #[.slice none 0 0, .slice none 0 0, .slice none 0 0] u)).alloc (.cells #[.slice none 0 0, .slice none 0 0, .slice none 0 0] u)) := by
  have b0 := below_new w (.cells #[va, vb, vc] t)
  have b1 := below_new (w.alloc (.cells #[va, vb, vc] t)) (.cells #[.slice none 0 0, .slice none 0 0, .slice none 0 0] u)
  have b2 := below_new ((w.alloc (.cells #[va, vb, vc] t)).alloc (.cells #[.slice none 0 0, .slice none 0 0, .slice none 0 0] u)) (.cells #[.slice none 0 0, .slice none 0 0, .slice none 0 0] u)
  have h0 := ((HBox.new w va vb vc t).below b1).below b2
  have h1 := (HBox.new (w.alloc (.cells #[va, vb, vc] t)) (.slice none 0 0) (.slice none 0 0) (.slice none 0 0) u).below b2
  have h2 := HBox.new ((w.alloc (.cells #[va, vb, vc] t)).alloc (.cells #[.slice none 0 0, .slice none 0 0, .slice none 0 0] u)) (.slice none 0 0) (.slice none 0 0) (.slice none 0 0) u
  rw [World.size_alloc] at h1
  rw [World.size_alloc, World.size_alloc] at h2
  refine ⟨h0, h1, h2, fun i => by simp [go_sem], fun i => by simp [go_sem], b0.trans ((b1.trans (b2.mono (by simp))).mono (by simp))⟩
set_option maxHeartbeats 4000000 in
theorem toH_any {a b o : Option Addr} {n m q c d e' : Nat} {ws cs os : List Int} {w : World} (HN : Hid (ws.length = n)) (HM : Hid (cs.length = m)) (HQ : Hid (os.length = q)) (h1 : n ≤ 1048576) (h2 : m ≤ 1048576) (h3 : q ≤ 1048576) (HA : Hid (ARow w a ws)) (HB : Hid (ARow w b cs)) (HO : Hid (ARow w o os)) :
    Calls Tryz.prog 9 #[.agg #[.slice a n c, .slice b m d, .slice o q e']] w fun e w' => ∃ x y z, e = .returned (.agg #[.slice (some ⟨x, 0, none⟩) n n, .slice (some ⟨y, 0, none⟩) m m, .slice (some ⟨z, 0, none⟩) q q]) ∧ Below w.heap.size w w' ∧ (w.heap.size ≤ x ∧ x < y ∧ y < z ∧ z < w'.heap.size) ∧
      w'.ownsRow w.heap.size 3 1 (.slice (some ⟨x, 0, none⟩) n n) n (ints ws) ∧ w'.ownsRow w.heap.size 3 1 (.slice (some ⟨y, 0, none⟩) m m) m (ints cs) ∧ w'.ownsRow w.heap.size 3 1 (.slice (some ⟨z, 0, none⟩) q q) q (ints os) := by
  have HT := hide (TH.new w (.slice a n c) (.slice b m d) (.slice o q e') 28 40)
  go_enter Tryz.func9, Tryz.ntmps9
  go_wp2_with fail
  have hz : (((w.alloc (.cells #[.slice a n c, .slice b m d, .slice o q e'] 28)).alloc (.cells #[.slice none 0 0, .slice none 0 0, .slice none 0 0] 40)).alloc (.cells #[.slice none 0 0, .slice none 0 0, .slice none 0 0] 40)).heap.size = w.heap.size + 3 := by simp
  generalize (((w.alloc (.cells #[.slice a n c, .slice b m d, .slice o q e'] 28)).alloc (.cells #[.slice none 0 0, .slice none 0 0, .slice none 0 0] 40)).alloc (.cells #[.slice none 0 0, .slice none 0 0, .slice none 0 0] 40)) = W0 at *
  have HZ0 := hide hz
  clear hz
  refine (toI_own a c n ws _ HN.out h1 (HA.out.below HT.out.b)).mono ?_
  rintro _ w1 ⟨rfl, hb1, hz1, own1⟩
  have HT1 := hide (HT.out.below hb1)
  obtain ⟨a0, a1, a2, _⟩ := HT1.out.a
  obtain ⟨o0, o1, o2, _⟩ := HT1.out.o
  have fo := HT1.out.fo
  have HO1 := hide own1
  have HZ1 := hide hz1
  have HS1 := hide hb1.size
  clear own1 hb1 hz1 HT
  go_wp2_with fail
  have HT2 := hide (HT1.out.set0 (.slice (some ⟨W0.heap.size, 0, none⟩) n n))
  have z0 := HZ0.out
  have HO1a := hide (ownsRow_setCell_below HO1.out (a := ⟨w.heap.size + 1 + 1, 0, none⟩) (by show w.heap.size + 1 + 1 < _; omega) (.slice (some ⟨W0.heap.size, 0, none⟩) n n))
  have hs2 : (w1.setCell ⟨w.heap.size + 1 + 1, 0, none⟩ (.slice (some ⟨W0.heap.size, 0, none⟩) n n)).heap.size = w1.heap.size := by simp
  clear HT1 HO1 a0 a1 a2 o0 o1 o2 fo
  generalize w1.setCell ⟨w.heap.size + 1 + 1, 0, none⟩ (.slice (some ⟨W0.heap.size, 0, none⟩) n n) = W2 at *
  have HS2 := hide hs2
  clear hs2 z0
  refine (toI_own b d m cs _ HM.out h2 (HB.out.below HT2.out.b)).mono ?_
  rintro _ w3 ⟨rfl, hb3, hz3, own3⟩
  have HT3 := hide (HT2.out.below hb3)
  obtain ⟨a0, a1, a2, _⟩ := HT3.out.a
  obtain ⟨o0, o1, o2, _⟩ := HT3.out.o
  have fo := HT3.out.fo
  have HO1b := hide (owns_keep HO1a.out (hb3.block W0.heap.size (by have := HZ1.out; have := HS2.out; omega)))
  have HO3 := hide own3
  have HZ3 := hide hz3
  clear own3 hb3 hz3 HT2 HO1a
  go_wp2_with fail
  have HT4 := hide (HT3.out.set1 (.slice (some ⟨W2.heap.size, 0, none⟩) m m))
  have z0 := HZ0.out
  have z2 := HS2.out
  have HO1c := hide (ownsRow_setCell_below HO1b.out (a := ⟨w.heap.size + 1 + 1, 1, none⟩) (by show w.heap.size + 1 + 1 < _; omega) (.slice (some ⟨W2.heap.size, 0, none⟩) m m))
  have HO3a := hide (ownsRow_setCell_below HO3.out (a := ⟨w.heap.size + 1 + 1, 1, none⟩) (by show w.heap.size + 1 + 1 < _; have := HZ1.out; omega) (.slice (some ⟨W2.heap.size, 0, none⟩) m m))
  have hs4 : (w3.setCell ⟨w.heap.size + 1 + 1, 1, none⟩ (.slice (some ⟨W2.heap.size, 0, none⟩) m m)).heap.size = w3.heap.size := by simp
  clear HT3 HO1b HO3 a0 a1 a2 o0 o1 o2 fo
  generalize w3.setCell ⟨w.heap.size + 1 + 1, 1, none⟩ (.slice (some ⟨W2.heap.size, 0, none⟩) m m) = W4 at *
  have HS4 := hide hs4
  clear hs4 z0 z2
  refine (toI_own o e' q os _ HQ.out h3 (HO.out.below HT4.out.b)).mono ?_
  rintro _ w5 ⟨rfl, hb5, hz5, own5⟩
  have HT5 := hide (HT4.out.below hb5)
  obtain ⟨o0, o1, o2, _⟩ := HT5.out.o
  obtain ⟨r0, r1, r2, _⟩ := HT5.out.r
  have fo := HT5.out.fo
  have fr := HT5.out.fr
  have HO1d := hide (owns_keep HO1c.out (hb5.block W0.heap.size (by have := HZ1.out; have := HZ3.out; have := HS2.out; have := HS4.out; omega)))
  have HO3b := hide (owns_keep HO3a.out (hb5.block W2.heap.size (by have := HZ3.out; have := HS4.out; omega)))
  have HO5 := hide own5
  have HZ5 := hide hz5
  have HB5 := hide HT5.out.b
  clear own5 hb5 hz5 HT4 HO1c HO3a
  go_wp2_with fail
  have e0 := HZ0.out
  have e1 := HZ1.out
  have e2 := HS2.out
  have e3 := HZ3.out
  have e4 := HS4.out
  refine bodyPost_ret (v := .agg #[.slice (some ⟨W0.heap.size, 0, none⟩) n n, .slice (some ⟨W2.heap.size, 0, none⟩) m m, .slice (some ⟨W4.heap.size, 0, none⟩) q q]) (by simp [results, Tryz.results9, go_sem, r0, r1, r2]) rfl ⟨W0.heap.size, W2.heap.size, W4.heap.size, rfl, ?_, ⟨by omega, by omega, by omega, by have := HZ5.out; simpa using this⟩, ?_, ?_, ?_⟩
  · exact (((HB5.out.setCell (by show w.heap.size ≤ w.heap.size + 1 + 1; omega) _).setCell (by show w.heap.size ≤ w.heap.size + 1; omega) _).setCell (by show w.heap.size ≤ w.heap.size + 1; omega) _).setCell (by show w.heap.size ≤ w.heap.size + 1; omega) _
  · exact owns_low (ownsRow_setCell_below (ownsRow_setCell_below (ownsRow_setCell_below (ownsRow_setCell_below HO1d.out (by show w.heap.size + 1 + 1 < _; omega) _) (by show w.heap.size + 1 < _; omega) _) (by show w.heap.size + 1 < _; omega) _) (by show w.heap.size + 1 < _; omega) _) (by omega)
  · exact owns_low (ownsRow_setCell_below (ownsRow_setCell_below (ownsRow_setCell_below (ownsRow_setCell_below HO3b.out (by show w.heap.size + 1 + 1 < _; omega) _) (by show w.heap.size + 1 < _; omega) _) (by show w.heap.size + 1 < _; omega) _) (by show w.heap.size + 1 < _; omega) _) (by omega)
  · exact owns_low (ownsRow_setCell_below (ownsRow_setCell_below (ownsRow_setCell_below (ownsRow_setCell_below HO5.out (by show w.heap.size + 1 + 1 < _; omega) _) (by show w.heap.size + 1 < _; omega) _) (by show w.heap.size + 1 < _; omega) _) (by show w.heap.size + 1 < _; omega) _) (by omega)
set_option maxHeartbeats 1000000 in
theorem szH_yes {a b o : Option Addr} {n m q c d e : Nat} {left : Int} {w : World} (h0 : 0 ≤ left) (h1 : left ≤ 1048576) (h : (n : Int) + m + q ≤ left) :
    Calls Tryz.prog 6 #[.agg #[.slice a n c, .slice b m d, .slice o q e], .int .i64 left] w fun e w' => e = .returned (.int .i64 (left - n - m - q)) ∧ Below w.heap.size w w' := by
  have hz1 : ¬ left - (n : Int) < 0 := by omega
  have hz2 : ¬ left - (n : Int) - (m : Int) < 0 := by omega
  have hz3 : ¬ left - (n : Int) - (m : Int) - (q : Int) < 0 := by omega
  go_enter Tryz.func6, Tryz.ntmps6
  go_wp2_with fail
  refine (szI_yes a n c left _ h0 h1 (by omega)).mono ?_
  rintro _ w1 ⟨rfl, rfl⟩
  go_wp2_with fail
  refine (szI_yes b m d _ _ (by omega) (by omega) (by omega)).mono ?_
  rintro _ w1 ⟨rfl, rfl⟩
  go_wp2_with fail
  refine (szI_yes o q e _ _ (by omega) (by omega) (by omega)).mono ?_
  rintro _ w1 ⟨rfl, rfl⟩
  go_wp2_with fail
  go_ret
  exact ⟨rfl, (Below.refl _ _).alloc (Nat.le_refl _) _⟩
set_option maxHeartbeats 1000000 in
theorem szH_no {a b o : Option Addr} {n m q c d e : Nat} {left : Int} {w : World} (h0 : 0 ≤ left) (h1 : left ≤ 1048576) (l1 : n ≤ maxLen) (l2 : m ≤ maxLen) (l3 : q ≤ maxLen) (h : left < (n : Int) + m + q) :
    Calls Tryz.prog 6 #[.agg #[.slice a n c, .slice b m d, .slice o q e], .int .i64 left] w fun e w' => e = .returned (.int .i64 (-1)) ∧ Below w.heap.size w w' := by
  by_cases hn : (n : Int) ≤ left
  · have hz1 : ¬ left - (n : Int) < 0 := by omega
    by_cases hm : (n : Int) + m ≤ left
    · have hz2 : ¬ left - (n : Int) - (m : Int) < 0 := by omega
      go_enter Tryz.func6, Tryz.ntmps6
      go_wp2_with fail
      refine (szI_yes a n c left _ h0 h1 (by omega)).mono ?_
      rintro _ w1 ⟨rfl, rfl⟩
      go_wp2_with fail
      refine (szI_yes b m d _ _ (by omega) (by omega) (by omega)).mono ?_
      rintro _ w1 ⟨rfl, rfl⟩
      go_wp2_with fail
      refine (szI_no o q e _ _ (by omega) (by omega) l3 (by omega)).mono ?_
      rintro _ w1 ⟨rfl, rfl⟩
      go_wp2_with fail
      go_ret
      exact ⟨rfl, (Below.refl _ _).alloc (Nat.le_refl _) _⟩
    · go_enter Tryz.func6, Tryz.ntmps6
      go_wp2_with fail
      refine (szI_yes a n c left _ h0 h1 (by omega)).mono ?_
      rintro _ w1 ⟨rfl, rfl⟩
      go_wp2_with fail
      refine (szI_no b m d _ _ (by omega) (by omega) l2 (by omega)).mono ?_
      rintro _ w1 ⟨rfl, rfl⟩
      go_wp2_with fail
      go_ret
      exact ⟨rfl, (Below.refl _ _).alloc (Nat.le_refl _) _⟩
  · go_enter Tryz.func6, Tryz.ntmps6
    go_wp2_with fail
    refine (szI_no a n c left _ h0 h1 l1 (by omega)).mono ?_
    rintro _ w1 ⟨rfl, rfl⟩
    go_wp2_with fail
    go_ret
    exact ⟨rfl, (Below.refl _ _).alloc (Nat.le_refl _) _⟩
set_option maxHeartbeats 2000000 in
theorem eqH_any {a b o a' b' o' : Option Addr} {n m q c d e c' d' e' : Nat} {ws cs os : List Int} {w : World} (HN : Hid (ws.length = n)) (HM : Hid (cs.length = m)) (HQ : Hid (os.length = q)) (h1 : n ≤ 1048576) (h2 : m ≤ 1048576) (h3 : q ≤ 1048576) (ha : ARow w a ws) (hb : ARow w b cs) (ho : ARow w o os) (ha' : ARow w a' ws) (hb' : ARow w b' cs) (ho' : ARow w o' os) :
    Calls Tryz.prog 13 #[.agg #[.slice a n c, .slice b m d, .slice o q e], .agg #[.slice a' n c', .slice b' m d', .slice o' q e']] w fun e w' => e = .returned (.bool true) ∧ Below w.heap.size w w' := by
  have HA := hide ((ha.alloc (.cells #[.slice a n c, .slice b m d, .slice o q e] 40)).alloc (.cells #[.slice a' n c', .slice b' m d', .slice o' q e'] 40))
  have HB := hide ((hb.alloc (.cells #[.slice a n c, .slice b m d, .slice o q e] 40)).alloc (.cells #[.slice a' n c', .slice b' m d', .slice o' q e'] 40))
  have HO := hide ((ho.alloc (.cells #[.slice a n c, .slice b m d, .slice o q e] 40)).alloc (.cells #[.slice a' n c', .slice b' m d', .slice o' q e'] 40))
  have HA' := hide ((ha'.alloc (.cells #[.slice a n c, .slice b m d, .slice o q e] 40)).alloc (.cells #[.slice a' n c', .slice b' m d', .slice o' q e'] 40))
  have HB' := hide ((hb'.alloc (.cells #[.slice a n c, .slice b m d, .slice o q e] 40)).alloc (.cells #[.slice a' n c', .slice b' m d', .slice o' q e'] 40))
  have HO' := hide ((ho'.alloc (.cells #[.slice a n c, .slice b m d, .slice o q e] 40)).alloc (.cells #[.slice a' n c', .slice b' m d', .slice o' q e'] 40))
  clear ha hb ho ha' hb' ho'
  go_enter Tryz.func13, Tryz.ntmps13
  go_wp2_with fail
  refine (eqI_b HN.out h1 HA.out HA'.out).mono ?_
  rintro _ w1 ⟨rfl, hb1⟩
  have hB0 := (below_new w (.cells #[.slice a n c, .slice b m d, .slice o q e] 40)).trans ((below_new (w.alloc (.cells #[.slice a n c, .slice b m d, .slice o q e] 40)) (.cells #[.slice a' n c', .slice b' m d', .slice o' q e'] 40)).mono (by simp))
  have HB1 := hide (hB0.trans (hb1.mono hB0.size))
  have hx1 := (((HBox.new w (.slice a n c) (.slice b m d) (.slice o q e) 40).below (below_new _ (.cells #[.slice a' n c', .slice b' m d', .slice o' q e'] 40))).below hb1)
  have hx2 := ((HBox.new (w.alloc (.cells #[.slice a n c, .slice b m d, .slice o q e] 40)) (.slice a' n c') (.slice b' m d') (.slice o' q e') 40).below hb1)
  rw [World.size_alloc] at hx2
  have HX1 := hide hx1
  have HX2 := hide hx2
  have HB2 := hide (HB.out.below hb1)
  have HB2' := hide (HB'.out.below hb1)
  have HO2 := hide (HO.out.below hb1)
  have HO2' := hide (HO'.out.below hb1)
  obtain ⟨x0, x1, x2, _⟩ := HX1.out
  obtain ⟨y0, y1, y2, _⟩ := HX2.out
  clear hb1 hB0 hx1 hx2
  go_wp2_with fail
  refine (eqI_b HM.out h2 HB2.out HB2'.out).mono ?_
  rintro _ w2 ⟨rfl, hb2⟩
  have HB3 := hide (HB1.out.trans (hb2.mono HB1.out.size))
  have HO3 := hide (HO2.out.below hb2)
  have HO3' := hide (HO2'.out.below hb2)
  clear x0 x1 x2 y0 y1 y2
  obtain ⟨x0, x1, x2, _⟩ := HX1.out.below hb2
  obtain ⟨y0, y1, y2, _⟩ := HX2.out.below hb2
  clear hb2
  go_wp2_with fail
  refine (eqI_b HQ.out h3 HO3.out HO3'.out).mono ?_
  rintro _ w3 ⟨rfl, hb3⟩
  have HB4 := hide (HB3.out.trans (hb3.mono HB3.out.size))
  clear hb3 x0 x1 x2 y0 y1 y2
  go_wp2_with fail
  go_ret
  exact ⟨rfl, HB4.out⟩
end Go.Proofs.YtlbagigghpiifabGreat
namespace Go.Proofs.YtlbagigghpiifabGreat
open Go.ChangeShapes Go.WideShapes Go.ChangeAt Go.RowKit Go.Deep

theorem laidOutG : laidOutB Tryz.prog = true := by kernel_rfl
theorem cellsG : Tryz.prog.cellsOf 74 = 2 := by kernel_rfl
theorem cellsGs : Tryz.prog.cellsOf 9 = 1 := by kernel_rfl
theorem cellsGi : Tryz.prog.cellsOf 3 = 1 := by kernel_rfl
set_option maxRecDepth 100000 in
theorem opened_goods {H : Type} {enc : TypeId × Value → H} {W : World} {base : Nat} {v : Value} {x : DataW H} {p : List MemPlace} {sp : Nat → Bool} (hv : Value.okWide Tryz.prog W .any base 22 v)
    (h0 : DataW.Trod enc Tryz.prog W 0 sp true 22 v x p) : ∃ (a : Option Addr) (gs : List Gd) (c : Nat), v = .slice a gs.length c ∧ gs.length ≤ maxLen ∧ Fits gs ∧ GRow W a gs := by
  obtain ⟨a0, len0, cap0, rfl⟩ := okWide_slice Tryz.underlying22 hv
  obtain ⟨fuel, hf⟩ := h0
  rcases open_slice_pairs Tryz.underlying22 Tryz.underlying74 cellsG rfl rfl cellsGs cellsGi hf with ⟨hcs, _⟩ | ⟨a, len, cap, m, n, V0, V1, D0, D1, P0, P1, hcs, _, hl, hcap, hmm, _, hx⟩
  · simp [Value.cells] at hcs
    obtain ⟨rfl, rfl, rfl⟩ := hcs
    exact ⟨none, [], 0, rfl, Nat.zero_le _, fun i => (show gd0.1.size ≤ maxLen from Nat.zero_le _), Or.inl rfl⟩
  · simp [Value.cells] at hcs
    obtain ⟨rfl, rfl, rfl⟩ := hcs
    have hlm : len0 ≤ m := by rw [hmm]; split <;> omega
    have each : ∀ i, i < len0 → ∃ z : Gd, V0 i = .string z.1 ∧ V1 i = .int .i64 z.2 ∧ z.1.size ≤ maxLen := by
      intro i hi
      obtain ⟨_, _, t0, t1⟩ := hx i (by omega)
      obtain ⟨z0, e0, _, ez⟩ := DataW.trod_string Tryz.underlying9 t0
      obtain ⟨z1, e1, _, _⟩ := DataW.trod_int Tryz.underlying3 t1
      simp at e0 e1
      exact ⟨(z0, z1), e0, e1, ez⟩
    obtain ⟨z, hz⟩ := choose_lt each
    have hget : ∀ i, i < len0 → ((List.range len0).map z).getD i gd0 = z i := fun i hi => by simp [hi]
    refine ⟨some a, (List.range len0).map z, cap0, by simp, by simp; omega, fun i => ?_, ?_⟩
    · by_cases hi : i < len0
      · rw [hget i hi]; exact (hz i hi).2.2
      · have : ((List.range len0).map z).getD i gd0 = gd0 := by simp [show len0 ≤ i by omega]
        rw [this]; exact (show gd0.1.size ≤ maxLen from Nat.zero_le _)
    · by_cases h : len0 = 0
      · left; subst h; rfl
      · right
        obtain ⟨b, off, spot⟩ := a
        have hc := (hx 0 (by omega)).1
        have hspot : spot = none := by simpa [Addr.add] using World.cell?_spot hc
        subst hspot
        refine ⟨b, off, rfl, World.block_lt_of_cell? W _ hc, ?_⟩
        intro i hi
        simp at hi
        obtain ⟨c0, c1, _, _⟩ := hx i (by omega)
        rw [add_plain] at c0 c1
        rw [hget i hi]
        refine ⟨c0.trans (by rw [(hz i hi).1]), ?_⟩
        rw [← Nat.add_assoc] at c1
        exact c1.trans (by rw [(hz i hi).2.1])
end Go.Proofs.YtlbagigghpiifabGreat
namespace Go.Proofs.YtlbagigghpiifabGreat
open Go.ChangeShapes Go.WideShapes Go.ChangeAt Go.RowKit Go.Deep

theorem cellsL : Tryz.prog.cellsOf 87 = 2 := by kernel_rfl
theorem cellsLi : Tryz.prog.cellsOf 3 = 1 := by kernel_rfl
set_option maxRecDepth 100000 in
theorem opened_lines {H : Type} {enc : TypeId × Value → H} {W : World} {base : Nat} {v : Value} {x : DataW H} {p : List MemPlace} {sp : Nat → Bool} (hv : Value.okWide Tryz.prog W .any base 23 v)
    (h0 : DataW.Trod enc Tryz.prog W 0 sp true 23 v x p) : ∃ (a : Option Addr) (ls : List (Int × Int)) (c : Nat), v = .slice a ls.length c ∧ ls.length ≤ maxLen ∧ LRow W a ls := by
  obtain ⟨a0, len0, cap0, rfl⟩ := okWide_slice Tryz.underlying23 hv
  obtain ⟨fuel, hf⟩ := h0
  rcases open_slice_pairs Tryz.underlying23 Tryz.underlying87 cellsL rfl rfl cellsLi cellsLi hf with ⟨hcs, _⟩ | ⟨a, len, cap, m, n, V0, V1, D0, D1, P0, P1, hcs, _, hl, hcap, hmm, _, hx⟩
  · simp [Value.cells] at hcs
    obtain ⟨rfl, rfl, rfl⟩ := hcs
    exact ⟨none, [], 0, rfl, Nat.zero_le _, Or.inl rfl⟩
  · simp [Value.cells] at hcs
    obtain ⟨rfl, rfl, rfl⟩ := hcs
    have hlm : len0 ≤ m := by rw [hmm]; split <;> omega
    have each : ∀ i, i < len0 → ∃ z : Int × Int, V0 i = .int .i64 z.1 ∧ V1 i = .int .i64 z.2 := by
      intro i hi
      obtain ⟨_, _, t0, t1⟩ := hx i (by omega)
      obtain ⟨z0, e0, _, _⟩ := DataW.trod_int Tryz.underlying3 t0
      obtain ⟨z1, e1, _, _⟩ := DataW.trod_int Tryz.underlying3 t1
      simp at e0 e1
      exact ⟨(z0, z1), e0, e1⟩
    obtain ⟨z, hz⟩ := choose_lt each
    have hget : ∀ i, i < len0 → ((List.range len0).map z).getD i (0, 0) = z i := fun i hi => by simp [hi]
    refine ⟨some a, (List.range len0).map z, cap0, by simp, by simp; omega, ?_⟩
    by_cases h : len0 = 0
    · left; subst h; rfl
    · right
      obtain ⟨b, off, spot⟩ := a
      have hc := (hx 0 (by omega)).1
      have hspot : spot = none := by simpa [Addr.add] using World.cell?_spot hc
      subst hspot
      refine ⟨b, off, rfl, World.block_lt_of_cell? W _ hc, ?_⟩
      intro i hi
      simp at hi
      obtain ⟨c0, c1, _, _⟩ := hx i (by omega)
      rw [add_plain] at c0 c1
      rw [hget i hi]
      refine ⟨c0.trans (by rw [(hz i hi).1]), ?_⟩
      rw [← Nat.add_assoc] at c1
      exact c1.trans (by rw [(hz i hi).2])
end Go.Proofs.YtlbagigghpiifabGreat
namespace Go.Proofs.YtlbagigghpiifabGreat
open Go.ChangeShapes Go.WideShapes Go.ChangeAt Go.RowKit Go.Deep

set_option maxRecDepth 100000 in
theorem opened_gd {H : Type} {enc : TypeId × Value → H} {W : World} {fuel : Nat} {v : Value} {x : DataW H × List MemPlace} {sp : Nat → Bool}
    (hf : DataW.trod enc Tryz.prog W 0 sp true fuel 22 [v] = some x) : ∃ (a : Option Addr) (gs : List Gd) (c : Nat), v = .slice a gs.length c ∧ gs.length ≤ maxLen ∧ Fits gs ∧ GRow W a gs := by
  rcases open_slice_pairs Tryz.underlying22 Tryz.underlying74 cellsG rfl rfl cellsGs cellsGi hf with ⟨hcs, _⟩ | ⟨a, len, cap, m, n, V0, V1, D0, D1, P0, P1, hcs, _, hl, hcap, hmm, _, hx⟩
  · simp at hcs
    subst hcs
    exact ⟨none, [], 0, rfl, Nat.zero_le _, fun i => (show gd0.1.size ≤ maxLen from Nat.zero_le _), Or.inl rfl⟩
  · simp at hcs
    subst hcs
    have hlm : len ≤ m := by rw [hmm]; split <;> omega
    have each : ∀ i, i < len → ∃ z : Gd, V0 i = .string z.1 ∧ V1 i = .int .i64 z.2 ∧ z.1.size ≤ maxLen := by
      intro i hi
      obtain ⟨_, _, t0, t1⟩ := hx i (by omega)
      obtain ⟨z0, e0, _, ez⟩ := DataW.trod_string Tryz.underlying9 t0
      obtain ⟨z1, e1, _, _⟩ := DataW.trod_int Tryz.underlying3 t1
      simp at e0 e1
      exact ⟨(z0, z1), e0, e1, ez⟩
    obtain ⟨z, hz⟩ := choose_lt each
    have hget : ∀ i, i < len → ((List.range len).map z).getD i gd0 = z i := fun i hi => by simp [hi]
    refine ⟨some a, (List.range len).map z, cap, by simp, by simp; omega, fun i => ?_, ?_⟩
    · by_cases hi : i < len
      · rw [hget i hi]; exact (hz i hi).2.2
      · have : ((List.range len).map z).getD i gd0 = gd0 := by simp [show len ≤ i by omega]
        rw [this]; exact (show gd0.1.size ≤ maxLen from Nat.zero_le _)
    · by_cases h : len = 0
      · left; subst h; rfl
      · right
        obtain ⟨b, off, spot⟩ := a
        have hc := (hx 0 (by omega)).1
        have hspot : spot = none := by simpa [Addr.add] using World.cell?_spot hc
        subst hspot
        refine ⟨b, off, rfl, World.block_lt_of_cell? W _ hc, ?_⟩
        intro i hi
        simp at hi
        obtain ⟨c0, c1, _, _⟩ := hx i (by omega)
        rw [add_plain] at c0 c1
        rw [hget i hi]
        refine ⟨c0.trans (by rw [(hz i hi).1]), ?_⟩
        rw [← Nat.add_assoc] at c1
        exact c1.trans (by rw [(hz i hi).2.1])
set_option maxRecDepth 100000 in
theorem opened_ln {H : Type} {enc : TypeId × Value → H} {W : World} {fuel : Nat} {v : Value} {x : DataW H × List MemPlace} {sp : Nat → Bool}
    (hf : DataW.trod enc Tryz.prog W 0 sp true fuel 23 [v] = some x) : ∃ (a : Option Addr) (ls : List (Int × Int)) (c : Nat), v = .slice a ls.length c ∧ ls.length ≤ maxLen ∧ LRow W a ls := by
  rcases open_slice_pairs Tryz.underlying23 Tryz.underlying87 cellsL rfl rfl cellsLi cellsLi hf with ⟨hcs, _⟩ | ⟨a, len, cap, m, n, V0, V1, D0, D1, P0, P1, hcs, _, hl, hcap, hmm, _, hx⟩
  · simp at hcs
    subst hcs
    exact ⟨none, [], 0, rfl, Nat.zero_le _, Or.inl rfl⟩
  · simp at hcs
    subst hcs
    have hlm : len ≤ m := by rw [hmm]; split <;> omega
    have each : ∀ i, i < len → ∃ z : Int × Int, V0 i = .int .i64 z.1 ∧ V1 i = .int .i64 z.2 := by
      intro i hi
      obtain ⟨_, _, t0, t1⟩ := hx i (by omega)
      obtain ⟨z0, e0, _, _⟩ := DataW.trod_int Tryz.underlying3 t0
      obtain ⟨z1, e1, _, _⟩ := DataW.trod_int Tryz.underlying3 t1
      simp at e0 e1
      exact ⟨(z0, z1), e0, e1⟩
    obtain ⟨z, hz⟩ := choose_lt each
    have hget : ∀ i, i < len → ((List.range len).map z).getD i (0, 0) = z i := fun i hi => by simp [hi]
    refine ⟨some a, (List.range len).map z, cap, by simp, by simp; omega, ?_⟩
    by_cases h : len = 0
    · left; subst h; rfl
    · right
      obtain ⟨b, off, spot⟩ := a
      have hc := (hx 0 (by omega)).1
      have hspot : spot = none := by simpa [Addr.add] using World.cell?_spot hc
      subst hspot
      refine ⟨b, off, rfl, World.block_lt_of_cell? W _ hc, ?_⟩
      intro i hi
      simp at hi
      obtain ⟨c0, c1, _, _⟩ := hx i (by omega)
      rw [add_plain] at c0 c1
      rw [hget i hi]
      refine ⟨c0.trans (by rw [(hz i hi).1]), ?_⟩
      rw [← Nat.add_assoc] at c1
      exact c1.trans (by rw [(hz i hi).2])
theorem cellsSh15 : Tryz.prog.cellsOf 25 = 2 := by kernel_rfl
theorem cellsSg15 : Tryz.prog.cellsOf 22 = 1 := by kernel_rfl
theorem cellsSl15 : Tryz.prog.cellsOf 23 = 1 := by kernel_rfl
set_option maxRecDepth 100000 in
theorem opened_sheet {H : Type} {enc : TypeId × Value → H} {W : World} {base : Nat} {v : Value} {x : DataW H} {p : List MemPlace} {sp : Nat → Bool} (hv : Value.okWide Tryz.prog W .any base 25 v)
    (h0 : DataW.Trod enc Tryz.prog W 0 sp true 25 v x p) : ∃ (a b : Option Addr) (gs : List Gd) (ls : List (Int × Int)) (c d : Nat), v = .agg #[.slice a gs.length c, .slice b ls.length d] ∧ gs.length ≤ maxLen ∧ Fits gs ∧ GRow W a gs ∧ ls.length ≤ maxLen ∧ LRow W b ls := by
  obtain ⟨cs, rfl, hsz⟩ := okWide_struct Tryz.underlying25 hv
  have hcs : cs.size = 2 := hsz.trans cellsSh15
  obtain ⟨c0, c1, rfl⟩ : ∃ c0 c1, cs = #[c0, c1] := by
    obtain ⟨l⟩ := cs
    match l, hcs with
    | [c0, c1], _ => exact ⟨c0, c1, rfl⟩
  obtain ⟨fuel, hf⟩ := h0
  obtain ⟨y0, y1, m, hx, _, g0, g1⟩ := trod_struct2 Tryz.underlying25 hf
  simp [Value.cells, cellsSg15, cellsSl15] at g0 g1
  obtain ⟨a, gs, c, rfl, l0, f0, r0⟩ := opened_gd g0
  obtain ⟨b, ls, d, rfl, l1, r1⟩ := opened_ln g1
  exact ⟨a, b, gs, ls, c, d, rfl, l0, f0, r0, l1, r1⟩
end Go.Proofs.YtlbagigghpiifabGreat
namespace Go.Proofs.YtlbagigghpiifabGreat
open Go.ChangeShapes Go.WideShapes Go.ChangeAt Go.RowKit Go.Deep

theorem laidOut' : laidOutB Tryz.prog = true := by kernel_rfl

set_option maxRecDepth 100000 in
theorem opened_ints {H : Type} {enc : TypeId × Value → H} {W : World} {fuel : Nat} {c : Value} {x : DataW H × List MemPlace} {sp : Nat → Bool}
    (hf : DataW.trod enc Tryz.prog W 0 sp true fuel 26 [c] = some x) : ∃ (a : Option Addr) (xs : List Int) (cap : Nat), c = .slice a xs.length cap ∧ xs.length ≤ maxLen ∧ ARow W a xs := by
  rcases open_ints Tryz.underlying26 Tryz.underlying3 (by kernel_rfl) hf with ⟨hcs, _⟩ | ⟨a, len, cap, zs, hcs, _, hl, hcap, hzl, _, hcell, _⟩
  · simp at hcs
    subst hcs
    exact ⟨none, [], 0, rfl, by simp, Or.inl rfl⟩
  · simp at hcs
    subst hcs
    have hlm : len ≤ zs.length := by rw [hzl]; split <;> omega
    refine ⟨some a, zs.take len, cap, by simp [hlm], by simp [hlm]; omega, ?_⟩
    by_cases h : len = 0
    · left; subst h; rfl
    · right
      obtain ⟨b, off, spot⟩ := a
      have hc := hcell 0 (by omega)
      have hspot : spot = none := by simpa [Addr.add] using World.cell?_spot hc
      subst hspot
      refine ⟨b, off, rfl, World.block_lt_of_cell? W _ hc, ?_⟩
      intro i hi
      simp [hlm] at hi
      have hci := hcell i (by omega)
      rw [add_plain] at hci
      rw [hci]
      simp [hi]

set_option maxRecDepth 100000 in
theorem opened_slice {H : Type} {enc : TypeId × Value → H} {W : World} {base : Nat} {v : Value} {x : DataW H} {p : List MemPlace} {sp : Nat → Bool} (hv : Value.okWide Tryz.prog W .any base 26 v)
    (h0 : DataW.Trod enc Tryz.prog W 0 sp true 26 v x p) : ∃ (a : Option Addr) (xs : List Int) (c : Nat), v = .slice a xs.length c ∧ xs.length ≤ maxLen ∧ ARow W a xs := by
  obtain ⟨a0, len0, cap0, rfl⟩ := okWide_slice Tryz.underlying26 hv
  obtain ⟨fuel, hf⟩ := h0
  exact opened_ints hf
theorem cellsS : Tryz.prog.cellsOf 26 = 1 := by kernel_rfl
end Go.Proofs.YtlbagigghpiifabGreat
namespace Go.Proofs.YtlbagigghpiifabGreat
open Go.ChangeShapes Go.WideShapes Go.ChangeAt Go.RowKit Go.Deep

theorem cellsH17 : Tryz.prog.cellsOf 28 = 3 := by kernel_rfl
theorem cellsS17 : Tryz.prog.cellsOf 26 = 1 := by kernel_rfl
set_option maxRecDepth 100000 in
theorem opened_house {H : Type} {enc : TypeId × Value → H} {W : World} {base : Nat} {v : Value} {x : DataW H} {p : List MemPlace} {sp : Nat → Bool} (hv : Value.okWide Tryz.prog W .any base 28 v)
    (h0 : DataW.Trod enc Tryz.prog W 0 sp true 28 v x p) : ∃ (a b o : Option Addr) (ws cs os : List Int) (c d e : Nat), v = .agg #[.slice a ws.length c, .slice b cs.length d, .slice o os.length e] ∧ (ws.length ≤ maxLen ∧ cs.length ≤ maxLen ∧ os.length ≤ maxLen) ∧ ARow W a ws ∧ ARow W b cs ∧ ARow W o os := by
  obtain ⟨cs, rfl, hsz⟩ := okWide_struct Tryz.underlying28 hv
  have hcs : cs.size = 3 := hsz.trans cellsH17
  obtain ⟨c0, c1, c2, rfl⟩ : ∃ c0 c1 c2, cs = #[c0, c1, c2] := by
    obtain ⟨l⟩ := cs
    match l, hcs with
    | [c0, c1, c2], _ => exact ⟨c0, c1, c2, rfl⟩
  obtain ⟨fuel, hf⟩ := h0
  obtain ⟨y0, y1, y2, m, hx, _, g0, g1, g2⟩ := trod_struct3 Tryz.underlying28 hf
  simp [Value.cells, cellsS17] at g0 g1 g2
  obtain ⟨a, ws, c, rfl, l0, r0⟩ := opened_ints g0
  obtain ⟨b, ks, d, rfl, l1, r1⟩ := opened_ints g1
  obtain ⟨o, os, e, rfl, l2, r2⟩ := opened_ints g2
  exact ⟨a, b, o, ws, ks, os, c, d, e, rfl, ⟨l0, l1, l2⟩, r0, r1, r2⟩
end Go.Proofs.YtlbagigghpiifabGreat
