/-
  What SheetProfile answers, of both.
-/
import Derived.Test.YtogkbidphdpjaaaSd15
import Derived.Test.YtogkbidphdpjaaaSa15
import Derived.Test.YtogkbidphdpjaaaLPoW
import Derived.Test.YtogkbidphdpjaaaTj15
namespace Go.Proofs.Ytogkbidphdpjaaa
open Go.RowKit

/-- What both SheetProfiles answer. -/
def SpAns (f n n' r : Nat) (ok : Bool) (gs : List Gd) (ls : List (Int × Int)) (R1 R2 : List Int) : Prop :=
  ∀ (W : World) (X Y : Nat), Short gs → TS W X Y n n' gs ls →
    Calls Try.prog f #[.agg #[.slice (some ⟨X, 0, none⟩) n n, .slice (some ⟨Y, 0, none⟩) n' n']] W fun e w' => ∃ v1 v2, e = .returned (.tuple #[.agg #[v1, v2], .bool ok]) ∧ Below W.heap.size W w' ∧ w'.ownsRow W.heap.size 3 1 v1 r (ints R1) ∧ w'.ownsRow W.heap.size 3 1 v2 r (ints R2) ∧ ∀ g, v1.ownBlock = some g → v2.ownBlock ≠ some g
theorem own_two15 {w : World} {base B n : Nat} {v u0 u1 : Value} {xs : List Value} (h : w.ownsRow base 3 1 v n xs) (hB : B < base) : ((w.setCell ⟨B, 0, none⟩ u0).setCell ⟨B, 1, none⟩ u1).ownsRow base 3 1 v n xs :=
  ownsRow_setCell_below (ownsRow_setCell_below h (a := ⟨B, 0, none⟩) hB u0) (a := ⟨B, 1, none⟩) hB u1
set_option maxHeartbeats 2000000 in
theorem isp_any {n n' r : Nat} {ok : Bool} {gs : List Gd} {ls : List (Int × Int)} {R1 R2 : List Int} (Hi : Hid (PoAns 37 n n' r ok gs ls R1 R2)) : SpAns 15 n n' r ok gs ls R1 R2 := by
  intro W X Y hs t
  have HT := hide t
  have HSh := hide hs
  have b1 := below_new W (.cells #[.slice (some ⟨X, 0, none⟩) n n, .slice (some ⟨Y, 0, none⟩) n' n'] 31)
  have b2 := below_new (W.alloc (.cells #[.slice (some ⟨X, 0, none⟩) n n, .slice (some ⟨Y, 0, none⟩) n' n'] 31)) (.cells #[.slice none 0 0, .slice none 0 0] 40)
  have HB := hide (b1.trans (b2.mono b1.size))
  have PR := hide (PBox.new (W.alloc (.cells #[.slice (some ⟨X, 0, none⟩) n n, .slice (some ⟨Y, 0, none⟩) n' n'] 31)) (.slice none 0 0) (.slice none 0 0) 40)
  rw [World.size_alloc] at PR
  have FR : Hid (∀ i, ((W.alloc (.cells #[.slice (some ⟨X, 0, none⟩) n n, .slice (some ⟨Y, 0, none⟩) n' n'] 31)).alloc (.cells #[.slice none 0 0, .slice none 0 0] 40)).frozen? ⟨W.heap.size + 1, i, none⟩ = false) := hide fun i => by simp [go_sem]
  clear t hs b1 b2
  go_enter Try.func15, Try.ntmps15
  go_wp2_with fail
  refine (Hi.out _ _ _ HSh.out (HT.out.below HB.out).g (HT.out.below HB.out).l).mono ?_
  rintro e w1 ⟨vv1, vv2, rfl, hb1, o1, o2, hne⟩
  obtain ⟨a1, c1, rfl⟩ := own_sh o1
  obtain ⟨a2, c2, rfl⟩ := own_sh o2
  have e0 : ((W.alloc (.cells #[.slice (some ⟨X, 0, none⟩) n n, .slice (some ⟨Y, 0, none⟩) n' n'] 31)).alloc (.cells #[.slice none 0 0, .slice none 0 0] 40)).heap.size = W.heap.size + 1 + 1 := by simp
  rw [e0] at o1 o2
  obtain ⟨p0, p1, pl⟩ := PR.out.below hb1
  have f0 := (hb1.frozen (p := ⟨W.heap.size + 1, 0, none⟩) (by show W.heap.size + 1 < _; rw [e0]; omega)).trans (FR.out 0)
  have f1 := (hb1.frozen (p := ⟨W.heap.size + 1, 1, none⟩) (by show W.heap.size + 1 < _; rw [e0]; omega)).trans (FR.out 1)
  have HB1 := hide (HB.out.trans (hb1.mono HB.out.size))
  have O1 := hide (owns_low (own_two15 (B := W.heap.size + 1) (u0 := .slice a1 r c1) (u1 := .slice a2 r c2) o1 (by omega)) (base' := W.heap.size) (by omega))
  have O2 := hide (owns_low (own_two15 (B := W.heap.size + 1) (u0 := .slice a1 r c1) (u1 := .slice a2 r c2) o2 (by omega)) (base' := W.heap.size) (by omega))
  have HNE := hide hne
  have HBf := hide ((HB1.out.setCell (p := ⟨W.heap.size + 1, 0, none⟩) (by show W.heap.size ≤ W.heap.size + 1; omega) (.slice a1 r c1)).setCell (p := ⟨W.heap.size + 1, 1, none⟩) (by show W.heap.size ≤ W.heap.size + 1; omega) (.slice a2 r c2))
  clear o1 o2 hne hb1 e0
  go_wp2_with fail
  exact bodyPost_ret (v := .tuple #[.agg #[.slice a1 r c1, .slice a2 r c2], .bool ok]) (by simp [results, Try.results15, go_sem, p0, p1]) rfl ⟨_, _, rfl, HBf.out, O1.out, O2.out, HNE.out⟩
set_option maxHeartbeats 2000000 in
theorem ssp_no {n n' : Nat} {gs : List Gd} {ls : List (Int × Int)} (HN : Hid (gs.length = n)) (hn : n ≤ 1048576) (HL : Hid (ls.length = n')) (hn' : n' ≤ 1048576) (hg : sheetB gs ls = false) : SpAns 14 n n' 0 false gs ls [] [] := by
  intro W X Y hs t
  have HT := hide t
  have HSh := hide hs
  have HG := hide hg
  have b1 := below_new W (.cells #[.slice (some ⟨X, 0, none⟩) n n, .slice (some ⟨Y, 0, none⟩) n' n'] 31)
  have b2 := below_new (W.alloc (.cells #[.slice (some ⟨X, 0, none⟩) n n, .slice (some ⟨Y, 0, none⟩) n' n'] 31)) (.cells #[.slice none 0 0, .slice none 0 0] 40)
  have HB := hide (b1.trans (b2.mono b1.size))
  have PR := hide (PBox.new (W.alloc (.cells #[.slice (some ⟨X, 0, none⟩) n n, .slice (some ⟨Y, 0, none⟩) n' n'] 31)) (.slice none 0 0) (.slice none 0 0) 40)
  rw [World.size_alloc] at PR
  have FR : Hid (∀ i, ((W.alloc (.cells #[.slice (some ⟨X, 0, none⟩) n n, .slice (some ⟨Y, 0, none⟩) n' n'] 31)).alloc (.cells #[.slice none 0 0, .slice none 0 0] 40)).frozen? ⟨W.heap.size + 1, i, none⟩ = false) := hide fun i => by simp [go_sem]
  clear t hs b1 b2 hg
  go_enter Try.func14, Try.ntmps14
  go_wp2_with fail
  refine (sgsh_hid HG HN hn (Nat.le_refl _) HSh (hide (HT.out.below HB.out).g) HL hn' (Nat.le_refl _) (hide (HT.out.below HB.out).l)).mono ?_
  rintro e w1 ⟨rfl, hb1⟩
  have e0 : ((W.alloc (.cells #[.slice (some ⟨X, 0, none⟩) n n, .slice (some ⟨Y, 0, none⟩) n' n'] 31)).alloc (.cells #[.slice none 0 0, .slice none 0 0] 40)).heap.size = W.heap.size + 1 + 1 := by simp
  obtain ⟨p0, p1, pl⟩ := PR.out.below hb1
  have f0 := (hb1.frozen (p := ⟨W.heap.size + 1, 0, none⟩) (by show W.heap.size + 1 < _; rw [e0]; omega)).trans (FR.out 0)
  have f1 := (hb1.frozen (p := ⟨W.heap.size + 1, 1, none⟩) (by show W.heap.size + 1 < _; rw [e0]; omega)).trans (FR.out 1)
  have HB1 := hide (HB.out.trans (hb1.mono HB.out.size))
  have HBf := hide ((HB1.out.setCell (p := ⟨W.heap.size + 1, 0, none⟩) (by show W.heap.size ≤ W.heap.size + 1; omega) (.slice none 0 0)).setCell (p := ⟨W.heap.size + 1, 1, none⟩) (by show W.heap.size ≤ W.heap.size + 1; omega) (.slice none 0 0))
  clear hb1 e0
  go_wp2_with fail
  exact bodyPost_ret (v := .tuple #[.agg #[.slice none 0 0, .slice none 0 0], .bool false]) (by simp [results, Try.results14, go_sem, p0, p1]) rfl ⟨_, _, rfl, HBf.out, World.ownsRow_nil _ _ _ _, World.ownsRow_nil _ _ _ _, fun g hg => by cases hg⟩
set_option maxHeartbeats 2000000 in
theorem ssp_yes {n n' r : Nat} {ok : Bool} {gs : List Gd} {ls : List (Int × Int)} {R1 R2 : List Int} (HN : Hid (gs.length = n)) (hn : n ≤ 1048576) (HL : Hid (ls.length = n')) (hn' : n' ≤ 1048576) (hg : sheetB gs ls = true) (Hi : Hid (PoAns 36 n n' r ok gs ls R1 R2)) : SpAns 14 n n' r ok gs ls R1 R2 := by
  intro W X Y hs t
  have HT := hide t
  have HSh := hide hs
  have HG := hide hg
  have b1 := below_new W (.cells #[.slice (some ⟨X, 0, none⟩) n n, .slice (some ⟨Y, 0, none⟩) n' n'] 31)
  have PS1 := PBox.new W (.slice (some ⟨X, 0, none⟩) n n) (.slice (some ⟨Y, 0, none⟩) n' n') 31
  have b2 := below_new (W.alloc (.cells #[.slice (some ⟨X, 0, none⟩) n n, .slice (some ⟨Y, 0, none⟩) n' n'] 31)) (.cells #[.slice none 0 0, .slice none 0 0] 40)
  have PS := hide (PS1.below b2)
  have HB := hide (b1.trans (b2.mono b1.size))
  have PR := hide (PBox.new (W.alloc (.cells #[.slice (some ⟨X, 0, none⟩) n n, .slice (some ⟨Y, 0, none⟩) n' n'] 31)) (.slice none 0 0) (.slice none 0 0) 40)
  rw [World.size_alloc] at PR
  have FR : Hid (∀ i, ((W.alloc (.cells #[.slice (some ⟨X, 0, none⟩) n n, .slice (some ⟨Y, 0, none⟩) n' n'] 31)).alloc (.cells #[.slice none 0 0, .slice none 0 0] 40)).frozen? ⟨W.heap.size + 1, i, none⟩ = false) := hide fun i => by simp [go_sem]
  clear t hs b1 b2 hg PS1
  go_enter Try.func14, Try.ntmps14
  go_wp2_with fail
  refine (sgsh_hid HG HN hn (Nat.le_refl _) HSh (hide (HT.out.below HB.out).g) HL hn' (Nat.le_refl _) (hide (HT.out.below HB.out).l)).mono ?_
  rintro e w1 ⟨rfl, hb1⟩
  have e0 : ((W.alloc (.cells #[.slice (some ⟨X, 0, none⟩) n n, .slice (some ⟨Y, 0, none⟩) n' n'] 31)).alloc (.cells #[.slice none 0 0, .slice none 0 0] 40)).heap.size = W.heap.size + 1 + 1 := by simp
  have z1 := hb1.size
  rw [e0] at z1
  have PS2 := hide (PS.out.below hb1)
  have PR2 := hide (PR.out.below hb1)
  have FR2 : Hid (∀ i, w1.frozen? ⟨W.heap.size + 1, i, none⟩ = false) := hide fun i => (hb1.frozen (p := ⟨W.heap.size + 1, i, none⟩) (by show W.heap.size + 1 < _; rw [e0]; omega)).trans (FR.out i)
  have HB1 := hide (HB.out.trans (hb1.mono HB.out.size))
  clear hb1 e0 PS PR FR
  obtain ⟨s0, s1, sl⟩ := PS2.out
  go_wp2_with fail
  refine (Hi.out _ _ _ HSh.out (HT.out.below HB1.out).g (HT.out.below HB1.out).l).mono ?_
  rintro e w2 ⟨vv1, vv2, rfl, hb2, o1, o2, hne⟩
  obtain ⟨a1, c1, rfl⟩ := own_sh o1
  obtain ⟨a2, c2, rfl⟩ := own_sh o2
  obtain ⟨p0, p1, pl⟩ := PR2.out.below hb2
  have f0 := (hb2.frozen (p := ⟨W.heap.size + 1, 0, none⟩) (by show W.heap.size + 1 < _; omega)).trans (FR2.out 0)
  have f1 := (hb2.frozen (p := ⟨W.heap.size + 1, 1, none⟩) (by show W.heap.size + 1 < _; omega)).trans (FR2.out 1)
  have HB2 := hide (HB1.out.trans (hb2.mono HB1.out.size))
  have O1 := hide (owns_low (own_two15 (B := W.heap.size + 1) (u0 := .slice a1 r c1) (u1 := .slice a2 r c2) o1 (by omega)) (base' := W.heap.size) (by omega))
  have O2 := hide (owns_low (own_two15 (B := W.heap.size + 1) (u0 := .slice a1 r c1) (u1 := .slice a2 r c2) o2 (by omega)) (base' := W.heap.size) (by omega))
  have HNE := hide hne
  have HBf := hide ((HB2.out.setCell (p := ⟨W.heap.size + 1, 0, none⟩) (by show W.heap.size ≤ W.heap.size + 1; omega) (.slice a1 r c1)).setCell (p := ⟨W.heap.size + 1, 1, none⟩) (by show W.heap.size ≤ W.heap.size + 1; omega) (.slice a2 r c2))
  clear o1 o2 hne hb2 s0 s1 sl z1
  go_wp2_with fail
  exact bodyPost_ret (v := .tuple #[.agg #[.slice a1 r c1, .slice a2 r c2], .bool ok]) (by simp [results, Try.results14, go_sem, p0, p1]) rfl ⟨_, _, rfl, HBf.out, O1.out, O2.out, HNE.out⟩
theorem sp_both {gs : List Gd} {ls : List (Int × Int)} (h : gs.length ≤ 1048576) (h' : ls.length ≤ 1048576) : ∃ (r : Nat) (ok : Bool) (R1 R2 : List Int), R1.length = r ∧ R2.length = r ∧ r ≤ 1000 ∧ SpAns 14 gs.length ls.length r ok gs ls R1 R2 ∧ SpAns 15 gs.length ls.length r ok gs ls R1 R2 := by
  cases hg : goodsB gs with
  | false =>
    exact ⟨0, false, [], [], rfl, rfl, by omega, ssp_no (hide rfl) h (hide rfl) h' (by rw [sheetB, hg]; rfl), isp_any (hide (poans_none fun W b b' h1 h2 h3 => po_bad1 rfl (Nat.le_refl _) h1 h2 hg))⟩
  | true =>
    cases hlb : linesB gs.length ls with
    | false =>
      exact ⟨0, false, [], [], rfl, rfl, by omega, ssp_no (hide rfl) h (hide rfl) h' (by rw [sheetB, hg, hlb]; rfl), isp_any (hide (poans_none fun W b b' h1 h2 h3 => po_bad2 rfl (Nat.le_refl _) h1 h2 hg rfl h3 hlb))⟩
    | true =>
      have h12 := goodsB_len hg
      exact ⟨gs.length, true, _, _, picks_len _ _, flow_len _ _, by omega, ssp_yes (hide rfl) h (hide rfl) h' (by rw [sheetB, hg, hlb]; rfl) (hide (poans_some fun W b b' h1 h2 h3 => spo_good rfl h (Nat.le_refl _) h1 h2 hg rfl h3 hlb)), isp_any (hide (poans_some fun W b b' h1 h2 h3 => po_good rfl (Nat.le_refl _) h1 h2 hg rfl h3 hlb))⟩
end Go.Proofs.Ytogkbidphdpjaaa
