/-
  Bytes of the laws as a list, and lists that are carried along while a law goes on (as in LFu).
-/
import Derived.Test.YtegonbilomcpkaaLr
import Derived.Test.YtegonbilomcpkaaLn
import Derived.Test.YtegonbilomcpkaaDj
namespace Go.Proofs.Ytegonbilomcpkaa
open Go.RowKit

theorem numUp_bd {zs : List Int} {n : Nat} : 0 ≤ numUp zs n ∧ numUp zs n < 1000003 := by
  cases n with
  | zero => exact ⟨by unfold numUp; omega, by unfold numUp; omega⟩
  | succ k => unfold numUp; omega
theorem src_row {w : World} {a : Option Addr} {len : Nat} (h : Src w a len) : ∃ zs : List Int, zs.length = len ∧ BRow w a zs := by
  obtain ⟨hb, hl⟩ := h
  rcases hb with h0 | ⟨b, off, rfl, hc⟩
  · subst h0; exact ⟨[], rfl, Or.inl rfl⟩
  · by_cases h0 : len = 0
    · subst h0; exact ⟨[], rfl, Or.inl rfl⟩
    · refine ⟨(List.range len).map fun i => if hi : i < len then (hc i hi).choose else 0, by simp, Or.inr ⟨b, off, rfl, hl b off rfl (by omega), ?_⟩⟩
      intro i hi
      have hi' : i < len := by simpa using hi
      have e : ((List.range len).map fun i => if hi : i < len then (hc i hi).choose else 0).getD i 0 = (hc i hi').choose := by
        simp [List.getD_eq_getElem?_getD, hi']
      rw [e]
      exact (hc i hi').choose_spec
theorem num_src {a : Option Addr} {len cap : Nat} {w : World} (h : Src w a len) (hl : len ≤ 1048576) :
    Calls Try.prog 11 #[.slice a len cap] w fun e w' => ∃ N : Int, e = .returned (.int .i64 N) ∧ 0 ≤ N ∧ N < 1000003 ∧ w' = w := by
  obtain ⟨zs, hz, hr⟩ := src_row h
  exact (num_of hz hr hl).mono fun e w' ⟨h1, h2⟩ => ⟨_, h1, numUp_bd.1, numUp_bd.2, h2⟩
/-- Lists that lie in memory while a law goes on. -/
def Rws (w0 w : World) (L : List (Option Addr × List Int)) : Prop := (∀ a xs, (a, xs) ∈ L → ARow w a xs) ∧ Below w0.heap.size w0 w
theorem Rws.step {w0 w w' : World} {L : List (Option Addr × List Int)} (h : Rws w0 w L) (hb : Below w.heap.size w w') : Rws w0 w' L := ⟨fun a xs hm => (h.1 a xs hm).below hb, h.2.trans (hb.mono h.2.size)⟩
theorem Rws.add {w0 w : World} {L : List (Option Addr × List Int)} {a : Option Addr} {xs : List Int} (h : Rws w0 w L) (r : ARow w a xs) : Rws w0 w ((a, xs) :: L) := ⟨fun b ys hm => by
  rcases List.mem_cons.1 hm with e | e
  · cases e; exact r
  · exact h.1 b ys e, h.2⟩
theorem arow_some {w : World} {a : Option Addr} {xs : List Int} (h : ARow w a xs) (hl : 0 < xs.length) : ∃ b o, a = some ⟨b, o, none⟩ := by
  rcases h with rfl | ⟨b, o, e, _⟩
  · simp at hl
  · exact ⟨b, o, e⟩
theorem arow_cell {w : World} {b o i : Nat} {xs : List Int} (h : ARow w (some ⟨b, o, none⟩) xs) (hi : i < xs.length) : w.cell? ⟨b, o + i, none⟩ = some (.int .i64 (xs.getD i 0)) := by
  rcases h with rfl | ⟨b', o', e, _, hc⟩
  · simp at hi
  · cases e; exact hc i hi
theorem own_arow {w : World} {base n c : Nat} {a : Option Addr} {xs : List Int} (hx : xs.length = n) (h : w.ownsRow base 3 1 (.slice a n c) n (ints xs)) : ARow w a xs := by
  obtain ⟨a', c', e, r⟩ := own_slice hx h
  cases e
  exact r
theorem own_cap {w : World} {base n c : Nat} {a : Option Addr} {xs : List Value} (h : w.ownsRow base 3 1 (.slice a n c) n xs) : n ≤ c := by
  rcases h.2 with ⟨e, hn⟩ | ⟨g, cap, cur, hv, _, _, hle, _⟩
  · omega
  · cases hv; omega
end Go.Proofs.Ytegonbilomcpkaa
