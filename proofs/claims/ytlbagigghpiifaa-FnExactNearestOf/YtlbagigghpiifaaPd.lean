/-
  What rankOf and RankBy of the program answer.
-/
import Derived.Test.YtlbagigghpiifaaPc
namespace Go.Proofs.Ytlbagigghpiifaa
open Go.RowKit Go.Sort

theorem grownBy_below {w w' : World} {g k : Nat} (hg : w.grownBy w' (some g)) (h : k ≤ g) (hk : k ≤ w.heap.size) : Below k w w' :=
  ⟨hg.os, hg.tape, hg.output, hg.size, fun b hb => hg.block b (by omega) (by simp; omega)⟩
theorem owns_base {w : World} {base base' e s n : Nat} {v : Value} {xs : List Value} (h : w.ownsRow base e s v n xs) (hb : base' ≤ base) : w.ownsRow base' e s v n xs := by
  rcases h with ⟨h0, h | ⟨g, cap, cur, h1, h2, h3⟩⟩
  · exact ⟨h0, Or.inl h⟩
  · exact ⟨h0, Or.inr ⟨g, cap, cur, h1, Nat.le_trans hb h2, h3⟩⟩
theorem fill_step (ys : List Int) (k n : Nat) (hy : ys.length = n) (hk : k < n) (h : ys.take k = nats (List.range k)) : (ys.set k (k : Int)).take (k + 1) = nats (List.range (k + 1)) := by
  rw [List.take_add_one, List.take_set_of_le (Nat.le_refl _), h, List.range_succ]
  simp [nats, hy, hk]
/-- The numbers below n, as elements. -/
def fins (m : Nat) : List (Fin (m + 1)) := List.finRange (m + 1)
theorem fins_vals (m : Nat) : Rk.vals m (fins m) = List.range (m + 1) := by
  apply List.ext_getElem
  · simp [fins, Rk.vals]
  · intro j h1 h2; simp [fins, Rk.vals]
theorem fins_len (m : Nat) : (fins m).length = m + 1 := by simp [fins]

theorem sort_zero {a : Option Addr} {c g : Nat} {cb : Array Value} {w : World} :
    Calls Try.prog 76 #[.slice a 0 c, .func (.func g) #[] cb] w fun e w' => e = .returned (.tuple #[]) ∧ w' = w := by
  go_enter Try.func76, Try.ntmps76
  go_wp2_with fail
  refine stable_zero.mono ?_
  rintro e w1 ⟨rfl, rfl⟩
  go_wp2_with fail
  go_end0
  exact ⟨rfl, rfl⟩
theorem sort_any {w : World} {f m g base : Nat} {cb : Array Value} {vs : List Int} (hm : m + 1 ≤ 12) (hv : vs.length = m + 1)
    (eg : ∀ args w, (callFunc f args).run Try.prog w = .ok (.enter f args) w) (hc : CmpBy f cb vs g w)
    (hown : w.ownsRow base 3 1 (.slice (some ⟨g, 0, none⟩) (m + 1) (m + 1)) (m + 1) (ints (nats (List.range (m + 1))))) :
    Calls Try.prog 76 #[.slice (some ⟨g, 0, none⟩) (m + 1 : Nat) (m + 1 : Nat), .func (.func f) #[] cb] w fun e w' =>
      e = .returned (.tuple #[]) ∧ w'.ownsRow base 3 1 (.slice (some ⟨g, 0, none⟩) (m + 1) (m + 1)) (m + 1) (ints (nats (Rk.rank vs))) ∧ w.grownBy w' (some g) := by
  have HS := hide (stable_any hm (fins_len m) (fins_vals m) hv eg hc (by rw [fins_vals]; exact hown))
  clear hown hc eg
  generalize m + 1 = n at HS ⊢
  go_enter Try.func76, Try.ntmps76
  go_wp2_with fail
  refine HS.out.mono ?_
  rintro e w1 ⟨rfl, h1, h2⟩
  go_wp2_with fail
  go_end0
  exact ⟨rfl, h1, h2⟩

theorem sort_any' {w : World} {f n g base : Nat} {cb : Array Value} {vs : List Int} (hn : n ≤ 12) (hv : vs.length = n)
    (eg : ∀ args w, (callFunc f args).run Try.prog w = .ok (.enter f args) w) (hc : CmpBy f cb vs g w)
    (hown : w.ownsRow base 3 1 (.slice (some ⟨g, 0, none⟩) n n) n (ints (nats (List.range n)))) :
    Calls Try.prog 76 #[.slice (some ⟨g, 0, none⟩) n n, .func (.func f) #[] cb] w fun e w' =>
      e = .returned (.tuple #[]) ∧ w'.ownsRow base 3 1 (.slice (some ⟨g, 0, none⟩) n n) n (ints (nats (Rk.rank vs))) ∧ w.grownBy w' (some g) := by
  cases n with
  | zero =>
    refine sort_zero.mono ?_
    rintro e w1 ⟨rfl, rfl⟩
    obtain rfl := List.length_eq_zero_iff.1 hv
    exact ⟨rfl, hown, World.grownBy.refl _ _⟩
  | succ m => exact sort_any hn hv eg hc hown

set_option maxHeartbeats 2000000 in
theorem sn_any {n f : Nat} {cb : Array Value} {vs : List Int} {w : World} (hv : vs.length = n) (hn : n ≤ 12) (eg : ∀ args w, (callFunc f args).run Try.prog w = .ok (.enter f args) w) (hc : CmpBy f cb vs w.heap.size w) :
    Calls Try.prog 63 #[.int .i64 n, .func (.func f) #[] cb] w fun e w' => e = .returned (.slice (some ⟨w.heap.size, 0, none⟩) n n) ∧ Below w.heap.size w w' ∧ w'.ownsRow w.heap.size 3 1 (.slice (some ⟨w.heap.size, 0, none⟩) n n) n (ints (nats (Rk.rank vs))) := by
  have hmk := makeI_run n (by omega)
  have HV := hide hv
  have HO := hide (made_own w n (by omega))
  have HE := hide eg
  have HC := hide hc
  clear hv eg hc
  go_enter Try.func63, Try.ntmps63
  go_wp2_with fail
  go_loopw [6, 11] (fun _ s wr => ∃ (k : Nat) (ys : List Int), s = .int .i64 k ∧ k ≤ n ∧ ys.length = n ∧ Hid (ys.take k = nats (List.range k)) ∧ wr.ownsRow w.heap.size 3 1 (.slice (some ⟨w.heap.size, 0, none⟩) n n) n (ints ys) ∧ Below w.heap.size w wr) (fun _ s _ => n - (intOf s).toNat)
  case atStart => exact ⟨0, List.replicate n 0, rfl, Nat.zero_le _, by simp, hide (by simp [nats]), HO.out, (Below.refl _ _).alloc (Nat.le_refl _) _⟩
  case round =>
    obtain ⟨k, ys, rfl, hk, hy, HT, hown, hB⟩ := hrel
    by_cases hlt : k < n
    · have i0 : (0 : Int) ≤ (k : Int) := by omega
      have i1 : (k : Int) < (n : Int) := by omega
      have c0 : wr.cell? ⟨w.heap.size, k, none⟩ = some (.int .i64 (ys.getD k 0)) := by rw [hown.cellAt k (by omega), ints_get ys k (by omega)]
      have f0 := hown.frozenAt k
      obtain ⟨st1, st2⟩ := hown.stored k (.int .i64 (k : Int))
      rw [ints_set] at st1
      have HST := hide st1
      have HF := hide (fill_step ys k n hy hlt HT.out)
      clear hmk st1 hown
      go_wp2_with fail
      go_roundw
      case rel => exact ⟨k + 1, ys.set k (k : Int), by go_num, by omega, by simpa using hy, HF, HST.out, hB.setCell (Nat.le_refl _) _⟩
      case measure => simp only [intOf]; omega
    · have hke : k = n := by omega
      subst hke
      have hys : ys = nats (List.range k) := by have := HT.out; rwa [← hy, List.take_length, hy] at this
      subst hys
      have HS := hide (sort_any' hn HV.out HE.out (HC.out.below hB.size hB.block) hown)
      clear hown hmk
      go_wp2_with fail
      refine HS.out.mono ?_
      rintro e w1 ⟨rfl, h1, h2⟩
      go_wp2_with fail
      go_ret
      exact ⟨rfl, hB.trans (grownBy_below h2 (Nat.le_refl _) hB.size), h1⟩

end Go.Proofs.Ytlbagigghpiifaa
