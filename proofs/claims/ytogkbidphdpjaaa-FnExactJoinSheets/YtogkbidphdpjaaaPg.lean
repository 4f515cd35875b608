/-
  What szProfile, toProfile and eqProfile of the laws answer, over profiles in memory.
-/
import Derived.Test.YtogkbidphdpjaaaPb
import Derived.Test.YtogkbidphdpjaaaYf
namespace Go.Proofs.Ytogkbidphdpjaaa
open Go.RowKit

theorem owns_keep {w w' : World} {base e s n c g : Nat} {xs : List Value} (h : w.ownsRow base e s (.slice (some ⟨g, 0, none⟩) n c) n xs) (hb : w'.heap[g]? = w.heap[g]?) : w'.ownsRow base e s (.slice (some ⟨g, 0, none⟩) n c) n xs := by
  rcases h with ⟨h0, h | ⟨g', cap, cur, h1, h2, h3, h4⟩⟩
  · cases h.1
  · cases h1; exact ⟨h0, Or.inr ⟨g, c, cur, rfl, h2, hb.trans h3, h4⟩⟩
theorem owns_low {w : World} {base base' e s n : Nat} {v : Value} {xs : List Value} (h : w.ownsRow base e s v n xs) (hb : base' ≤ base) : w.ownsRow base' e s v n xs := by
  rcases h with ⟨h0, h | ⟨g, cap, cur, h1, h2, h3⟩⟩
  · exact ⟨h0, Or.inl h⟩
  · exact ⟨h0, Or.inr ⟨g, cap, cur, h1, Nat.le_trans hb h2, h3⟩⟩
/-- A variable of two fields in a block of its own. -/
def PBox (w : World) (B : Nat) (v0 v1 : Value) : Prop := w.cell? ⟨B, 0, none⟩ = some v0 ∧ w.cell? ⟨B, 1, none⟩ = some v1 ∧ B < w.heap.size
theorem PBox.below {w w' : World} {B : Nat} {v0 v1 : Value} (h : PBox w B v0 v1) (hb : Below w.heap.size w w') : PBox w' B v0 v1 :=
  ⟨(hb.cell (p := ⟨B, 0, none⟩) h.2.2).trans h.1, (hb.cell (p := ⟨B, 1, none⟩) h.2.2).trans h.2.1, Nat.lt_of_lt_of_le h.2.2 hb.size⟩
theorem PBox.new (w : World) (v0 v1 : Value) (t : TypeId) : PBox (w.alloc (.cells #[v0, v1] t)) w.heap.size v0 v1 := ⟨by simp [go_sem], by simp [go_sem], by simp⟩
theorem PBox.drewN {w : World} {B : Nat} {v0 v1 : Value} (h : PBox w B v0 v1) (q : Nat) : PBox (w.drewN q) B v0 v1 := h
theorem grown_below' {w w' : World} {g k : Nat} (hg : w.grownBy w' (some g)) (h : k ≤ g) (hk : k ≤ w.heap.size) : Below k w w' :=
  ⟨hg.os, hg.tape, hg.output, hg.size, fun b hb => hg.block b (by omega) (by simp; omega)⟩
theorem below_new (w : World) (o : Obj) : Below w.heap.size w (w.alloc o) := (Below.refl _ _).alloc (Nat.le_refl _) o
theorem eqI_any {a b : Option Addr} {c d n : Nat} {xs : List Int} {w : World} (hn : xs.length = n) (hl : n ≤ 1048576) (h1 : ARow w a xs) (h2 : ARow w b xs) :
    Calls Try.prog 38 #[.slice a n c, .slice b n d] w fun e w' => e = .returned (.bool true) ∧ ∃ m, w' = w.drewN m := by
  subst hn
  rcases h1 with rfl | ⟨b1, o1, rfl, hb1, c1⟩
  · refine (eqI_zero a b c d w).mono ?_
    rintro e w' ⟨rfl, rfl⟩
    exact ⟨rfl, 0, rfl⟩
  · rcases h2 with rfl | ⟨b2, o2, rfl, hb2, c2⟩
    · refine (eqI_zero _ b c d w).mono ?_
      rintro e w' ⟨rfl, rfl⟩
      exact ⟨rfl, 0, rfl⟩
    · exact eqI_same xs b1 o1 c b2 o2 d w (by omega) c1 c2

theorem eqI_b {a b : Option Addr} {c d n : Nat} {xs : List Int} {w : World} (hn : xs.length = n) (hl : n ≤ 1048576) (h1 : ARow w a xs) (h2 : ARow w b xs) :
    Calls Try.prog 38 #[.slice a n c, .slice b n d] w fun e w' => e = .returned (.bool true) ∧ Below w.heap.size w w' := by
  refine (eqI_any hn hl h1 h2).mono ?_
  rintro e w' ⟨rfl, q, rfl⟩
  exact ⟨rfl, below_drewN (Below.refl _ _) q⟩

set_option maxHeartbeats 2000000 in
theorem eqP_any {a b a' b' : Option Addr} {n m c d c' d' : Nat} {ps fs : List Int} {w : World} (hn : ps.length = n) (hm : fs.length = m) (h1 : n ≤ 1048576) (h2 : m ≤ 1048576) (ha : ARow w a ps) (hb : ARow w b fs) (ha' : ARow w a' ps) (hb' : ARow w b' fs) :
    Calls Try.prog 16 #[.agg #[.slice a n c, .slice b m d], .agg #[.slice a' n c', .slice b' m d']] w fun e w' => e = .returned (.bool true) ∧ Below w.heap.size w w' := by
  have HA := hide ((ha.alloc (.cells #[.slice a n c, .slice b m d] 40)).alloc (.cells #[.slice a' n c', .slice b' m d'] 40))
  have HB := hide ((hb.alloc (.cells #[.slice a n c, .slice b m d] 40)).alloc (.cells #[.slice a' n c', .slice b' m d'] 40))
  have HA' := hide ((ha'.alloc (.cells #[.slice a n c, .slice b m d] 40)).alloc (.cells #[.slice a' n c', .slice b' m d'] 40))
  have HB' := hide ((hb'.alloc (.cells #[.slice a n c, .slice b m d] 40)).alloc (.cells #[.slice a' n c', .slice b' m d'] 40))
  clear ha hb ha' hb'
  go_enter Try.func16, Try.ntmps16
  go_wp2_with fail
  refine (eqI_any hn h1 HA.out HA'.out).mono ?_
  rintro e w1 ⟨rfl, q, rfl⟩
  go_wp2_with fail
  refine (eqI_any hm h2 (HB.out.drewN q) (HB'.out.drewN q)).mono ?_
  rintro e w1 ⟨rfl, q', rfl⟩
  go_wp2_with fail
  go_ret
  have hB := below_drewN (below_drewN (((Below.refl w.heap.size w).alloc (Nat.le_refl _) (.cells #[.slice a n c, .slice b m d] 40)).alloc (by simp) (.cells #[.slice a' n c', .slice b' m d'] 40)) q) q'
  exact ⟨rfl, by simpa using hB⟩
end Go.Proofs.Ytogkbidphdpjaaa
