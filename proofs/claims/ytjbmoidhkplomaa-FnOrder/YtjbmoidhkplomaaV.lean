/-
  What LessFrac, SubFrac, FloorFrac answer at any fractions, in one word each.
-/
import Derived.Test.YtjbmoidhkplomaaG
import Derived.Test.YtjbmoidhkplomaaT
import Derived.Test.YtjbmoidhkplomaaU
namespace Go.Proofs.Ytjbmoidhkplomaa
open Go.RowKit

def leV (n1 d1 n2 d2 : Int) : Bool := Fr.goodB n1 d1 && Fr.goodB n2 d2 && Fr.lessB n1 d1 n2 d2
def okV (n1 d1 n2 d2 : Int) : Bool := Fr.goodB n1 d1 && Fr.goodB n2 d2
def flV (n d : Int) : Int := if Fr.goodB n d then Fr.flr n d else 0
theorem lessF_any (n1 d1 n2 d2 : Int) (w : World) :
    Calls Try.prog 5 #[.agg #[.int .i64 n1, .int .i64 d1], .agg #[.int .i64 n2, .int .i64 d2]] w fun e w' => e = .returned (.tuple #[.bool (leV n1 d1 n2 d2), .bool (okV n1 d1 n2 d2)]) ∧ Below w.heap.size w w' := by
  unfold leV okV
  cases h1 : Fr.goodB n1 d1
  · simpa using less_no1 n1 d1 n2 d2 w h1
  · cases h2 : Fr.goodB n2 d2
    · simpa using less_no2 n1 d1 n2 d2 w h1 h2
    · simpa using less_yes n1 d1 n2 d2 w h1 h2
theorem sLessF_any (n1 d1 n2 d2 : Int) (w : World) :
    Calls Try.prog 6 #[.agg #[.int .i64 n1, .int .i64 d1], .agg #[.int .i64 n2, .int .i64 d2]] w fun e w' => e = .returned (.tuple #[.bool (leV n1 d1 n2 d2), .bool (okV n1 d1 n2 d2)]) ∧ Below w.heap.size w w' := by
  unfold leV okV
  cases h1 : Fr.goodB n1 d1
  · simpa using sLess_no n1 d1 n2 d2 w (by rw [h1]; rfl)
  · cases h2 : Fr.goodB n2 d2
    · simpa using sLess_no n1 d1 n2 d2 w (by rw [h1, h2]; rfl)
    · simpa using sLess_yes n1 d1 n2 d2 w h1 h2
theorem subF_any (n1 d1 n2 d2 : Int) (w : World) :
    Calls Try.prog 7 #[.agg #[.int .i64 n1, .int .i64 d1], .agg #[.int .i64 n2, .int .i64 d2]] w fun e w' => e = .returned (.tuple #[.agg #[.int .i64 (Fr.subN n1 d1 n2 d2), .int .i64 (Fr.subD n1 d1 n2 d2)], .bool (Fr.subB n1 d1 n2 d2)]) ∧ Below w.heap.size w w' := by
  unfold Fr.subN Fr.subD Fr.subB
  cases h1 : Fr.goodB n1 d1
  · simpa using sub_no1 n1 d1 n2 d2 w h1
  · cases h2 : Fr.goodB n2 d2
    · simpa using sub_no2 n1 d1 n2 d2 w h1 h2
    · simpa using sub_yes n1 d1 n2 d2 w h1 h2
theorem floorF_any (n d : Int) (w : World) :
    Calls Try.prog 9 #[.agg #[.int .i64 n, .int .i64 d]] w fun e w' => e = .returned (.tuple #[.int .i64 (flV n d), .bool (Fr.goodB n d)]) ∧ Below w.heap.size w w' := by
  unfold flV
  cases h : Fr.goodB n d
  · simpa using floor_no n d w h
  · simpa using floor_yes n d w h
theorem sfloorF_any (n d : Int) (w : World) :
    Calls Try.prog 10 #[.agg #[.int .i64 n, .int .i64 d]] w fun e w' => e = .returned (.tuple #[.int .i64 (flV n d), .bool (Fr.goodB n d)]) ∧ Below w.heap.size w w' := by
  unfold flV
  cases h : Fr.goodB n d
  · simpa using sfloor_no n d w h
  · simpa using sfloor_yes n d w h

/-- Two fractions lie in two variables of the law's own. -/
def Vars2 (w : World) (p q : Nat) (n1 d1 n2 d2 : Int) : Prop :=
  p < w.heap.size ∧ q < w.heap.size ∧ w.cell? ⟨p, 0, none⟩ = some (.int .i64 n1) ∧ w.cell? ⟨p, 1, none⟩ = some (.int .i64 d1) ∧ w.cell? ⟨q, 0, none⟩ = some (.int .i64 n2) ∧ w.cell? ⟨q, 1, none⟩ = some (.int .i64 d2)
theorem Vars2.below {w w' : World} {p q : Nat} {n1 d1 n2 d2 : Int} (h : Vars2 w p q n1 d1 n2 d2) (hb : Below w.heap.size w w') : Vars2 w' p q n1 d1 n2 d2 := by
  obtain ⟨h0, h1, h2, h3, h4, h5⟩ := h
  obtain ⟨hc, _⟩ := bcell hb
  exact ⟨Nat.lt_of_lt_of_le h0 hb.size, Nat.lt_of_lt_of_le h1 hb.size, (hc _ _ h0).trans h2, (hc _ _ h0).trans h3, (hc _ _ h1).trans h4, (hc _ _ h1).trans h5⟩
end Go.Proofs.Ytjbmoidhkplomaa
