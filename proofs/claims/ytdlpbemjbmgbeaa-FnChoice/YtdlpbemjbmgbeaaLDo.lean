/-
  At any offers and any two numbers DropOffer answers as the model does: the law's own walk.
-/
import Derived.Test.YtdlpbemjbmgbeaaCt
namespace Go.Proofs.Ytdlpbemjbmgbeaa
open Go.RowKit

def drI (L : List (List Int)) (k p : Int) : Int := if drB L k p then (Of.tab L p.toNat).getD p.toNat 0 - (Of.tab (Of.drop L k.toNat) p.toNat).getD p.toNat 0 else 0
theorem drI_no {L : List (List Int)} {k p : Int} (h : drB L k p = false) : drI L k p = 0 := by simp [drI, h]
theorem drI_yes {L : List (List Int)} {k P : Nat} (h : drB L (k : Int) (P : Int) = true) : drI L (k : Int) (P : Int) = (Of.tab L P).getD P 0 - (Of.tab (Of.drop L k) P).getD P 0 := by simp [drI, h]
theorem drB_yes {L : List (List Int)} {k p : Int} (h : drB L k p = true) : chB L p = true ∧ 0 ≤ k ∧ k < L.length := by
  simp only [drB, Bool.and_eq_true] at h
  have := Pf.inB_yes h.2
  exact ⟨h.1, this.1, by omega⟩
theorem dr_w {a : Option Addr} {n c : Nat} {L : List (List Int)} {k p : Int} {w : World} (hn : L.length = n) (hcap : n ≤ c) (h : ORow w a L) :
    Calls Try.prog 25 #[.slice a n c, .int .i64 k, .int .i64 p] w fun e w' => e = .returned (.tuple #[.int .i64 (drI L k p), .bool (drB L k p)]) ∧ Below w.heap.size w w' := by
  cases hg : drB L k p
  · rw [drI_no hg]; exact dr_no hn h hg
  · obtain ⟨h1, h2, h3⟩ := drB_yes hg
    obtain ⟨P, rfl⟩ : ∃ P : Nat, p = (P : Int) := ⟨p.toNat, by have := chB_yes h1; omega⟩
    obtain ⟨K, rfl⟩ : ∃ K : Nat, k = (K : Int) := ⟨k.toNat, by omega⟩
    have := chB_yes h1
    rw [drI_yes hg]
    exact dr_yes (M := P + 1) hn hcap rfl (by omega) h h1 (by omega)
theorem sdr_w {a : Option Addr} {n c : Nat} {L : List (List Int)} {k p : Int} {w : World} (hn : L.length = n) (hm : n ≤ 1048576) (hcap : n ≤ c) (h : ORow w a L) :
    Calls Try.prog 26 #[.slice a n c, .int .i64 k, .int .i64 p] w fun e w' => e = .returned (.tuple #[.int .i64 (drI L k p), .bool (drB L k p)]) ∧ Below w.heap.size w w' := by
  cases hg : drB L k p
  · rw [drI_no hg]; exact sdr_no hn hm h hg
  · obtain ⟨h1, h2, h3⟩ := drB_yes hg
    obtain ⟨P, rfl⟩ : ∃ P : Nat, p = (P : Int) := ⟨p.toNat, by have := chB_yes h1; omega⟩
    obtain ⟨K, rfl⟩ : ∃ K : Nat, k = (K : Int) := ⟨k.toNat, by omega⟩
    have := chB_yes h1
    rw [drI_yes hg]
    exact sdr_yes (M := P + 1) hn hcap rfl (by omega) h h1 (by omega)
end Go.Proofs.Ytdlpbemjbmgbeaa
