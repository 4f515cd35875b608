/-
  Goods in memory; what hasName of the program answers, through the library's search.
-/
import Derived.Test.YtogkbidphdpjaaaDoorGn
import Derived.Shelf.Abstract
namespace Go.Proofs.YtogkbidphdpjaaaDoor
open Go.RowKit

abbrev Gd := ByteArray × Int
def gd0 : Gd := (⟨#[]⟩, 0)
/-- A slice of goods, wherever it lies. -/
def GRow (w : World) (a : Option Addr) (gs : List Gd) : Prop := gs = [] ∨ ∃ b off, a = some ⟨b, off, none⟩ ∧ b < w.heap.size ∧ ∀ i, i < gs.length → w.cell? ⟨b, off + i * 2, none⟩ = some (.string (gs.getD i gd0).1) ∧ w.cell? ⟨b, off + i * 2 + 1, none⟩ = some (.int .i64 (gs.getD i gd0).2)
theorem GRow.keep {w w' : World} {a : Option Addr} {gs : List Gd} (h : GRow w a gs) (hs : w.heap.size ≤ w'.heap.size) (hB : ∀ b, b < w.heap.size → w'.heap[b]? = w.heap[b]?) : GRow w' a gs := by
  rcases h with h | ⟨b, off, ha, hb, hc⟩
  · exact Or.inl h
  · exact Or.inr ⟨b, off, ha, Nat.lt_of_lt_of_le hb hs, fun i hi => ⟨(World.cell?_of_block (w := w) (a := ⟨b, off + i * 2, none⟩) (hB b hb)).trans (hc i hi).1, (World.cell?_of_block (w := w) (a := ⟨b, off + i * 2 + 1, none⟩) (hB b hb)).trans (hc i hi).2⟩⟩
theorem GRow.below {w w' : World} {a : Option Addr} {gs : List Gd} (h : GRow w a gs) (hB : Below w.heap.size w w') : GRow w' a gs := h.keep hB.size hB.block
theorem GRow.at {w : World} {a : Option Addr} {gs : List Gd} (h : GRow w a gs) {i : Nat} (hi : i < gs.length) : ∃ b off, a = some ⟨b, off, none⟩ ∧ b < w.heap.size ∧ w.cell? ⟨b, off + i * 2, none⟩ = some (.string (gs.getD i gd0).1) ∧ w.cell? ⟨b, off + i * 2 + 1, none⟩ = some (.int .i64 (gs.getD i gd0).2) := by
  rcases h with h | ⟨b, off, ha, hb, hc⟩
  · rw [h] at hi; simp at hi
  · exact ⟨b, off, ha, hb, hc i hi⟩
theorem GRow.take {w : World} {a : Option Addr} {gs : List Gd} (h : GRow w a gs) (k : Nat) : GRow w a (gs.take k) := by
  rcases h with h | ⟨b, off, ha, hb, hc⟩
  · left; rw [h]; simp
  · exact Or.inr ⟨b, off, ha, hb, fun i hi => by
      simp only [List.length_take] at hi
      have e : (gs.take k).getD i gd0 = gs.getD i gd0 := by simp [show i < k by omega]
      rw [e]; exact hc i (by omega)⟩
/-- Whether one of them has the name. -/
def hasB (gs : List Gd) (s : ByteArray) : Bool := gs.any fun g => g.1.toList == s.toList
theorem hasB_of {gs : List Gd} {s : ByteArray} {i : Nat} (hi : i < gs.length) (h : ((gs.getD i gd0).1.toList == s.toList) = true) : hasB gs s = true := by
  refine List.any_eq_true.2 ⟨gs.getD i gd0, ?_, h⟩
  rw [Pf.getD_lt _ _ hi]; exact List.getElem_mem hi
theorem hasB_no {gs : List Gd} {s : ByteArray} (h : ∀ i, i < gs.length → ((gs.getD i gd0).1.toList == s.toList) = false) : hasB gs s = false := by
  cases e : hasB gs s
  · rfl
  · obtain ⟨g, hg, hg'⟩ := List.any_eq_true.1 e
    obtain ⟨i, hi, rfl⟩ := List.getElem_of_mem hg
    have := h i hi
    rw [Pf.getD_lt _ _ hi, hg'] at this; cases this

/-- The number of the first good of a name, -1 where there is none. -/
def fnd (gs : List Gd) (s : ByteArray) : Nat := gs.findIdx fun g => g.1.toList == s.toList
def fndI (gs : List Gd) (s : ByteArray) : Int := if fnd gs s < gs.length then (fnd gs s : Int) else -1
theorem fndI_at {gs : List Gd} {s : ByteArray} {k : Nat} (hk : k < gs.length) (h : ((gs.getD k gd0).1.toList == s.toList) = true) (ha : ∀ i, i < k → ((gs.getD i gd0).1.toList == s.toList) = false) : fndI gs s = k := by
  have e : fnd gs s = k := by
    unfold fnd
    refine (List.findIdx_eq hk).2 ⟨?_, fun j hj => ?_⟩
    · simpa [hk] using h
    · have hj' : j < gs.length := by omega
      simpa [hj'] using ha j hj
  rw [fndI, e, if_pos hk]
theorem fndI_no {gs : List Gd} {s : ByteArray} (h : ∀ i, i < gs.length → ((gs.getD i gd0).1.toList == s.toList) = false) : fndI gs s = -1 := by
  have e : fnd gs s = gs.length := by
    unfold fnd
    refine List.findIdx_eq_length.2 fun x hx => ?_
    obtain ⟨i, hi, rfl⟩ := List.getElem_of_mem hx
    simpa [hi] using h i hi
  rw [fndI, e, if_neg (Nat.lt_irrefl _)]
theorem fndI_has (gs : List Gd) (s : ByteArray) : decide (0 ≤ fndI gs s) = hasB gs s := by
  unfold fndI fnd hasB
  by_cases h : (gs.findIdx fun g => g.1.toList == s.toList) < gs.length
  · rw [if_pos h]
    have h2 : (gs.any fun g => g.1.toList == s.toList) = true := List.any_eq_true.2 ⟨_, List.getElem_mem h, List.findIdx_getElem (w := h)⟩
    rw [h2]; exact decide_eq_true (Int.natCast_nonneg _)
  · rw [if_neg h]
    have h2 : (gs.any fun g => g.1.toList == s.toList) = false := by
      cases e : (gs.any fun g => g.1.toList == s.toList)
      · rfl
      · obtain ⟨x, hx, hp⟩ := List.any_eq_true.1 e
        exact absurd (List.findIdx_lt_length_of_exists (p := fun g : Gd => g.1.toList == s.toList) ⟨x, hx, hp⟩) h
    rw [h2]; rfl
theorem fndI_lt (gs : List Gd) (s : ByteArray) : -1 ≤ fndI gs s ∧ fndI gs s < gs.length ∨ fndI gs s = -1 := by
  unfold fndI
  by_cases h : fnd gs s < gs.length
  · rw [if_pos h]; left; omega
  · rw [if_neg h]; right; rfl

set_option maxHeartbeats 1000000 in
theorem same_any (s t : ByteArray) (z : Int) (B : Nat) (w : World) (hB : w.cell? ⟨B, 0, none⟩ = some (.string t)) (hl : B < w.heap.size) :
    Calls Tryd.prog 71 #[.agg #[.string s, .int .i64 z], .pointer (some ⟨B, 0, none⟩)] w fun e w' => e = .returned (.bool (s.toList == t.toList)) ∧ Below w.heap.size w w' := by
  have hc : ∀ o : Obj, (w.alloc o).cell? ⟨B, 0, none⟩ = some (.string t) := fun o => ((((Below.refl _ _).alloc (Nat.le_refl _) o)).cell (p := ⟨B, 0, none⟩) hl).trans hB
  go_enter Tryd.func71, Tryd.ntmps71
  go_wp2_with fail
  go_ret
  exact ⟨rfl, (Below.refl _ _).alloc (Nat.le_refl _) _⟩

set_option maxHeartbeats 2000000 in
theorem index_any {a : Option Addr} {n c B : Nat} {gs : List Gd} {t : ByteArray} {w : World} (hn : gs.length = n) (hn' : n ≤ 1048576) (h : GRow w a gs) (hB : w.cell? ⟨B, 0, none⟩ = some (.string t)) (hl : B < w.heap.size) :
    Calls Tryd.prog 70 #[.slice a n c, .func (.func 71) #[] #[.pointer (some ⟨B, 0, none⟩)]] w fun e w' => e = .returned (.int .i64 (fndI gs t)) ∧ Below w.heap.size w w' := by
  have H := hide h
  have HN := hide hn
  have HB := hide hB
  have eg : ∀ args w, (callFunc 71 args).run Tryd.prog w = .ok (.enter 71 args) w := enters_of Tryd.func71 (by kernel_rfl) rfl
  clear h hn hB
  go_enter Tryd.func70, Tryd.ntmps70
  go_wp2_with fail
  go_loopw [4, 5, 8] (fun _ _ s wr => ∃ k : Nat, s = .int .i64 k ∧ k ≤ n ∧ Hid (∀ i, i < k → ((gs.getD i gd0).1.toList == t.toList) = false) ∧ Hid (Below w.heap.size w wr)) (fun _ _ s _ => n - (intOf s).toNat)
  case atStart => exact ⟨0, rfl, Nat.zero_le _, hide fun i hi => absurd hi (Nat.not_lt_zero _), hide (Below.refl _ _)⟩
  case round =>
    obtain ⟨k, rfl, hk, HA, HBl⟩ := hrel
    by_cases hlt : k < n
    · obtain ⟨b, off, rfl, hb, r1, r2⟩ := (H.out.below HBl.out).at (i := k) (by rw [HN.out]; exact hlt)
      have i0 : (0 : Int) ≤ (k : Int) := by omega
      have i1 : (k : Int) < (n : Int) := by omega
      have hcB : wr.cell? ⟨B, 0, none⟩ = some (.string t) := (HBl.out.cell (p := ⟨B, 0, none⟩) hl).trans HB.out
      have hlB : B < wr.heap.size := Nat.lt_of_lt_of_le hl HBl.out.size
      generalize hx : (gs.getD k gd0).1 = x at r1
      generalize (gs.getD k gd0).2 = z at r2
      have hcall := hide (same_any x t z B wr hcB hlB)
      cases he : (x.toList == t.toList)
      · have HY : Hid (∀ i, i < k + 1 → ((gs.getD i gd0).1.toList == t.toList) = false) := hide fun i hi => by
          by_cases e : i = k
          · subst e; rw [hx]; exact he
          · exact HA.out i (by omega)
        rw [he] at hcall
        clear hx hcB he
        go_wp2_with (go_at_fn 71; refine hcall.out.mono ?_; rintro e w1 ⟨rfl, hb1⟩)
        go_roundw
        case rel => exact ⟨k + 1, by go_num, by omega, HY, hide (HBl.out.trans (hb1.mono HBl.out.size))⟩
        case measure => simp only [intOf]; omega
      · have HY := hide (fndI_at (gs := gs) (s := t) (k := k) (by rw [HN.out]; exact hlt) (by rw [hx]; exact he) HA.out)
        rw [he] at hcall
        clear hx hcB he
        go_wp2_with (go_at_fn 71; refine hcall.out.mono ?_; rintro e w1 ⟨rfl, hb1⟩)
        go_ret
        exact ⟨by rw [HY.out]; rfl, HBl.out.trans (hb1.mono HBl.out.size)⟩
    · have hke : k = n := by omega
      subst hke
      have HY := hide (fndI_no (gs := gs) (s := t) (fun i hi => HA.out i (by rw [← HN.out]; exact hi)))
      go_wp2_with fail
      go_ret
      exact ⟨by rw [HY.out]; rfl, HBl.out⟩
set_option maxHeartbeats 1000000 in
theorem number_any {a : Option Addr} {n c : Nat} {gs : List Gd} {t : ByteArray} {w : World} (hn : gs.length = n) (hn' : n ≤ 1048576) (h : GRow w a gs) :
    Calls Tryd.prog 62 #[.slice a n c, .string t] w fun e w' => e = .returned (.int .i64 (fndI gs t)) ∧ Below w.heap.size w w' := by
  have bn := (Below.refl w.heap.size w).alloc (Nat.le_refl _) (.cells #[.string t] 9)
  have H := hide (index_any (c := c) (B := w.heap.size) (t := t) hn hn' (h.below bn) (by simp [go_sem]) (by simp))
  clear h hn
  go_enter Tryd.func62, Tryd.ntmps62
  go_wp2_with (go_at_call 70; refine H.out.mono ?_; rintro e w1 ⟨rfl, hb1⟩)
  go_ret
  exact ⟨rfl, bn.trans (hb1.mono (by simp))⟩
set_option maxHeartbeats 1000000 in
theorem hasName_any {a : Option Addr} {n c : Nat} {gs : List Gd} {t : ByteArray} {w : World} (hn : gs.length = n) (hn' : n ≤ 1048576) (h : GRow w a gs) :
    Calls Tryd.prog 53 #[.slice a n c, .string t] w fun e w' => e = .returned (.bool (hasB gs t)) ∧ Below w.heap.size w w' := by
  have H := hide (number_any (c := c) (t := t) hn hn' h)
  have HH := hide (fndI_has gs t)
  clear h hn
  generalize fndI gs t = F at H HH
  go_enter Tryd.func53, Tryd.ntmps53
  go_wp2_with (go_at_call 62; refine H.out.mono ?_; rintro e w1 ⟨rfl, hb1⟩)
  go_ret
  exact ⟨by rw [← HH.out]; rfl, hb1⟩
end Go.Proofs.YtogkbidphdpjaaaDoor
