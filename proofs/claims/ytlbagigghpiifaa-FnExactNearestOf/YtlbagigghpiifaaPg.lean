/-
  What szProfile, toProfile and eqProfile of the laws answer, over profiles in memory.
-/
import Derived.Test.YtlbagigghpiifaaPb
import Derived.Test.YtlbagigghpiifaaYf
namespace Go.Proofs.Ytlbagigghpiifaa
open Go.RowKit

theorem owns_keep {w w' : World} {base e s n c g : Nat} {xs : List Value} (h : w.ownsRow base e s (.slice (some ⟨g, 0, none⟩) n c) n xs) (hb : w'.heap[g]? = w.heap[g]?) : w'.ownsRow base e s (.slice (some ⟨g, 0, none⟩) n c) n xs := by
  rcases h with ⟨h0, h | ⟨g', cap, cur, h1, h2, h3, h4⟩⟩
  · cases h.1
  · cases h1; exact ⟨h0, Or.inr ⟨g, c, cur, rfl, h2, hb.trans h3, h4⟩⟩
theorem owns_low {w : World} {base base' e s n : Nat} {v : Value} {xs : List Value} (h : w.ownsRow base e s v n xs) (hb : base' ≤ base) : w.ownsRow base' e s v n xs := by
  rcases h with ⟨h0, h | ⟨g, cap, cur, h1, h2, h3⟩⟩
  · exact ⟨h0, Or.inl h⟩
  · exact ⟨h0, Or.inr ⟨g, cap, cur, h1, Nat.le_trans hb h2, h3⟩⟩
/-- A variable of two fields in a block of its own. -/
def PBox (w : World) (B : Nat) (v0 v1 : Value) : Prop := w.cell? ⟨B, 0, none⟩ = some v0 ∧ w.cell? ⟨B, 1, none⟩ = some v1 ∧ B < w.heap.size
theorem PBox.below {w w' : World} {B : Nat} {v0 v1 : Value} (h : PBox w B v0 v1) (hb : Below w.heap.size w w') : PBox w' B v0 v1 :=
  ⟨(hb.cell (p := ⟨B, 0, none⟩) h.2.2).trans h.1, (hb.cell (p := ⟨B, 1, none⟩) h.2.2).trans h.2.1, Nat.lt_of_lt_of_le h.2.2 hb.size⟩
theorem PBox.new (w : World) (v0 v1 : Value) (t : TypeId) : PBox (w.alloc (.cells #[v0, v1] t)) w.heap.size v0 v1 := ⟨by simp [go_sem], by simp [go_sem], by simp⟩
theorem PBox.drewN {w : World} {B : Nat} {v0 v1 : Value} (h : PBox w B v0 v1) (q : Nat) : PBox (w.drewN q) B v0 v1 := h
theorem grown_below' {w w' : World} {g k : Nat} (hg : w.grownBy w' (some g)) (h : k ≤ g) (hk : k ≤ w.heap.size) : Below k w w' :=
  ⟨hg.os, hg.tape, hg.output, hg.size, fun b hb => hg.block b (by omega) (by simp; omega)⟩
theorem below_new (w : World) (o : Obj) : Below w.heap.size w (w.alloc o) := (Below.refl _ _).alloc (Nat.le_refl _) o
theorem eqI_any {a b : Option Addr} {c d n : Nat} {xs : List Int} {w : World} (hn : xs.length = n) (hl : n ≤ 1048576) (h1 : ARow w a xs) (h2 : ARow w b xs) :
    Calls Try.prog 11 #[.slice a n c, .slice b n d] w fun e w' => e = .returned (.bool true) ∧ ∃ m, w' = w.drewN m := by
  subst hn
  rcases h1 with rfl | ⟨b1, o1, rfl, hb1, c1⟩
  · refine (eqI_zero a b c d w).mono ?_
    rintro e w' ⟨rfl, rfl⟩
    exact ⟨rfl, 0, rfl⟩
  · rcases h2 with rfl | ⟨b2, o2, rfl, hb2, c2⟩
    · refine (eqI_zero _ b c d w).mono ?_
      rintro e w' ⟨rfl, rfl⟩
      exact ⟨rfl, 0, rfl⟩
    · exact eqI_same xs b1 o1 c b2 o2 d w (by omega) c1 c2

theorem eqI_b {a b : Option Addr} {c d n : Nat} {xs : List Int} {w : World} (hn : xs.length = n) (hl : n ≤ 1048576) (h1 : ARow w a xs) (h2 : ARow w b xs) :
    Calls Try.prog 11 #[.slice a n c, .slice b n d] w fun e w' => e = .returned (.bool true) ∧ Below w.heap.size w w' := by
  refine (eqI_any hn hl h1 h2).mono ?_
  rintro e w' ⟨rfl, q, rfl⟩
  exact ⟨rfl, below_drewN (Below.refl _ _) q⟩

set_option maxHeartbeats 1000000 in
theorem toI_own (a : Option Addr) (cap n : Nat) (xs : List Int) (w : World) (hx : xs.length = n) (hlen : n ≤ 1048576) (hr : ARow w a xs) :
    Calls Try.prog 9 #[.slice a n cap] w fun e w' => e = .returned (.slice (some ⟨w.heap.size, 0, none⟩) n n) ∧ Below w.heap.size w w' ∧ w.heap.size < w'.heap.size ∧ w'.ownsRow w.heap.size 3 1 (.slice (some ⟨w.heap.size, 0, none⟩) n n) n (ints xs) := by
  subst hx
  have hmk := makeI_run xs.length hlen
  have HR := hide hr
  clear hr
  go_enter Try.func9, Try.ntmps9
  go_wp2_with fail
  go_loopw [4] (fun s wr => ∃ (k : Nat) (ys : List Int), s = .int .i64 k ∧ k ≤ xs.length ∧ ys.length = xs.length ∧ Hid (ys.take k = xs.take k) ∧ wr.ownsRow w.heap.size 3 1 (.slice (some ⟨w.heap.size, 0, none⟩) xs.length xs.length) xs.length (ints ys) ∧ Below w.heap.size w wr ∧ w.heap.size < wr.heap.size) (fun s _ => xs.length - (intOf s).toNat)
  case atStart => exact ⟨0, List.replicate xs.length 0, rfl, Nat.zero_le _, by simp, hide (by simp), made_own w xs.length hlen, (Below.refl _ _).alloc (Nat.le_refl _) _, by simp⟩
  case round =>
    obtain ⟨k, ys, rfl, hk, hy, HT, hown, hB, hz⟩ := hrel
    by_cases hlt : k < xs.length
    · rcases HR.out with hnil | ⟨b, off, rfl, hb, hr⟩
      · rw [hnil] at hlt; simp at hlt
      · have r0 := (hB.cell (p := ⟨b, off + k, none⟩) hb).trans (hr k hlt)
        have HSET := hide (getD_set_take xs ys k hy hlt HT.out)
        have i0 : (0 : Int) ≤ (k : Int) := by omega
        have i1 : (k : Int) < (xs.length : Int) := by omega
        have c0 : wr.cell? ⟨w.heap.size, k, none⟩ = some (.int .i64 (ys.getD k 0)) := by rw [hown.cellAt k (by omega), ints_get ys k (by omega)]
        have f0 := hown.frozenAt k
        obtain ⟨st1, st2⟩ := hown.stored k (.int .i64 (xs.getD k 0))
        rw [ints_set] at st1
        have HST := hide st1
        generalize xs.getD k 0 = x at *
        generalize ys.getD k 0 = y at *
        clear hr hmk st1 hown
        go_wp2_with fail
        exact ⟨⟨k + 1, ys.set k x, by go_num, by omega, by simpa using hy, HSET, HST.out, hB.setCell (Nat.le_refl _) _, by simpa using hz⟩, by simp only [intOf]; omega⟩
    · have hke : k = xs.length := by omega
      subst hke
      have HE := hide (show ys = xs by have := HT.out; rwa [List.take_length, ← hy, List.take_length] at this)
      rw [HE.out] at hown
      clear hmk
      go_wp2_with fail
      go_ret
      exact ⟨rfl, hB, hz, hown⟩

set_option maxHeartbeats 400000 in
theorem szI_yes (a : Option Addr) (len cap : Nat) (left : Int) (w : World) (h0 : 0 ≤ left) (h1 : left ≤ 1048576) (h : (len : Int) ≤ left) :
    Calls Try.prog 40 #[.slice a len cap, .int .i64 left] w fun e w' => e = .returned (.int .i64 (left - len)) ∧ w' = w := by
  have h2 : ¬ left - (len : Int) < 0 := by omega
  go_enter Try.func40, Try.ntmps40
  go_wp2
  go_ret
  exact ⟨rfl, rfl⟩

set_option maxHeartbeats 400000 in
theorem szI_no (a : Option Addr) (len cap : Nat) (left : Int) (w : World) (h0 : 0 ≤ left) (h1 : left ≤ 1048576) (hm : len ≤ maxLen) (h : left < (len : Int)) :
    Calls Try.prog 40 #[.slice a len cap, .int .i64 left] w fun e w' => e = .returned (.int .i64 (-1)) ∧ w' = w := by
  unfold maxLen at hm
  have h2 : left - (len : Int) < 0 := by omega
  have h3 : wrap64 (left - (len : Int)) = left - (len : Int) := wrap_id' _ (by omega) (by omega)
  go_enter Try.func40, Try.ntmps40
  go_wp2
  go_ret
  exact ⟨rfl, rfl⟩
end Go.Proofs.Ytlbagigghpiifaa
