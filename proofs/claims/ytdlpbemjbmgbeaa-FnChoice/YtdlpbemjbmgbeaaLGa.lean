/-
  At any four numbers GainsOf answers as the model does, in memory of its own: the law's own walk.
-/
import Derived.Test.YtdlpbemjbmgbeaaCq
import Derived.Test.YtdlpbemjbmgbeaaPn
namespace Go.Proofs.Ytdlpbemjbmgbeaa
open Go.RowKit

def gaL (p f s c : Int) : List Int := if Of.gainsB p f s c then Of.gainsL p f s c else []
theorem gaL_no {p f s c : Int} (h : Of.gainsB p f s c = false) : gaL p f s c = [] := by simp [gaL, h]
theorem gaL_yes {p f s c : Int} (h : Of.gainsB p f s c = true) : gaL p f s c = Of.gainsL p f s c := by simp [gaL, h]
theorem gaL_len (p f s c : Int) : (gaL p f s c).length ≤ 6 := by
  cases h : Of.gainsB p f s c
  · rw [gaL_no h]; simp
  · rw [gaL_yes h, Of.gainsL_len]; omega
theorem ga_w {p f s c : Int} {w : World} :
    Calls Try.prog 18 #[.int .i64 p, .int .i64 f, .int .i64 s, .int .i64 c] w fun e w' => ∃ v, e = .returned (.tuple #[.agg #[v], .bool (Of.gainsB p f s c)]) ∧ w'.ownsRow w.heap.size 3 1 v (gaL p f s c).length (ints (gaL p f s c)) ∧ Below w.heap.size w w' := by
  cases h : Of.gainsB p f s c
  · refine (ga_no h).mono ?_
    rintro e w' ⟨rfl, hb⟩
    exact ⟨_, rfl, by rw [gaL_no h]; exact World.ownsRow_nil _ _ _ _, hb⟩
  · refine (ga_yes h).mono ?_
    rintro e w' ⟨g, rfl, own, hb⟩
    exact ⟨_, rfl, by rw [gaL_yes h, Of.gainsL_len]; exact own, hb⟩
theorem sga_w {p f s c : Int} {w : World} :
    Calls Try.prog 19 #[.int .i64 p, .int .i64 f, .int .i64 s, .int .i64 c] w fun e w' => ∃ a0 c0, e = .returned (.tuple #[.agg #[.slice a0 (gaL p f s c).length c0], .bool (Of.gainsB p f s c)]) ∧ ARow w' a0 (gaL p f s c) ∧ Below w.heap.size w w' := by
  cases h : Of.gainsB p f s c
  · refine (sga_no h).mono ?_
    rintro e w' ⟨rfl, hb⟩
    exact ⟨none, 0, by rw [gaL_no h]; rfl, by rw [gaL_no h]; exact Or.inl rfl, hb⟩
  · refine (sga_yes h).mono ?_
    rintro e w' ⟨g, cap, rfl, r, hb⟩
    exact ⟨some ⟨g, 0, none⟩, cap, by rw [gaL_yes h, Of.gainsL_len], by rw [gaL_yes h]; exact arow_owns (Of.gainsL_len p f s c).symm r, hb⟩
theorem sga_o {p f s c : Int} {w : World} :
    Calls Try.prog 19 #[.int .i64 p, .int .i64 f, .int .i64 s, .int .i64 c] w fun e w' => ∃ v ok xs, e = .returned (.tuple #[.agg #[v], .bool ok]) ∧ List.length xs ≤ 6 ∧ w'.ownsRow w.heap.size 3 1 v xs.length (ints xs) ∧ Below w.heap.size w w' := by
  cases h : Of.gainsB p f s c
  · refine (sga_no h).mono ?_
    rintro e w' ⟨rfl, hb⟩
    exact ⟨_, _, [], rfl, by simp, World.ownsRow_nil _ _ _ _, hb⟩
  · refine (sga_yes h).mono ?_
    rintro e w' ⟨g, cap, rfl, r, hb⟩
    exact ⟨_, _, Of.gainsL p f s c, rfl, by rw [Of.gainsL_len]; omega, by rw [Of.gainsL_len]; exact r, hb⟩
end Go.Proofs.Ytdlpbemjbmgbeaa
