/-
  Draws of chapter 4: countsFor of the model's cursor, and what its Draw functions hand out: some lists, some number.
-/
import Derived.Test.YtmhednkbpniphaaDa
namespace Go.Proofs.Ytmhednkbpniphaa
open Go.RowKit

def shareO (fs : List Int) (p : Int) : List Int := if Sh.kindsB fs p = true then shareL fs p else []
theorem shareO_bd (fs : List Int) (p : Int) : (shareO fs p).length ≤ 9 ∧ Pf.allB (shareO fs p) 0 100 = true := by
  unfold shareO
  split
  · rename_i h
    obtain ⟨h1, h2, h3⟩ := Sh.kindsB_yes h
    have hf := Sh.flowB_yes h1
    have hs := Sh.share_shared h1 (p - fs.length).toNat (by omega)
    refine ⟨by rw [shareL_len]; omega, Pf.allB_of fun i hi => ?_⟩
    have := Sh.sharedB_at hs (i := i) (by rw [shareL_len] at hi; exact hi)
    exact Pf.inB_of (by show 0 ≤ (Sh.share fs _).getD i 0; omega) (by show (Sh.share fs _).getD i 0 ≤ 100; omega)
  · exact ⟨by simp, rfl⟩
theorem allB_snoc {xs : List Int} {x lo hi : Int} (h : Pf.allB xs lo hi = true) (h1 : lo ≤ x) (h2 : x ≤ hi) : Pf.allB (xs ++ [x]) lo hi = true := by
  unfold Pf.allB at *
  rw [List.all_append, h]
  simp [Pf.inB_of h1 h2]

end Go.Proofs.Ytmhednkbpniphaa
