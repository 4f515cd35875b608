/-
  At any profile GoodProfile answers as the model does: the law's own walk.
-/
import Derived.Test.YtolkhobedokciaaPg
namespace Go.Proofs.Ytolkhobedokciaa
open Go.RowKit

/-- What stays while a profile is held against its copy. -/
def Rest (w : World) (B x y : Nat) (ps fs : List Int) (w' : World) : Prop := Below w.heap.size w w' ∧ B < w'.heap.size ∧ ARow w' (some ⟨x, 0, none⟩) ps ∧ ARow w' (some ⟨y, 0, none⟩) fs
theorem Rest.below {w w1 w2 : World} {B x y : Nat} {ps fs : List Int} (h : Rest w B x y ps fs w1) (hb : Below w1.heap.size w1 w2) : Rest w B x y ps fs w2 :=
  ⟨h.1.trans (hb.mono h.1.size), Nat.lt_of_lt_of_le h.2.1 hb.size, h.2.2.1.below hb, h.2.2.2.below hb⟩
theorem rest_step {w w1 w2 : World} {B x y : Nat} {ps fs : List Int} {v0 v1 v2 v3 : Value} (hB : w.heap.size < B)
    (s : w1.cell? ⟨w.heap.size, 0, none⟩ = some v0 ∧ w1.cell? ⟨w.heap.size, 1, none⟩ = some v1 ∧ w1.cell? ⟨B, 0, none⟩ = some v2 ∧ w1.cell? ⟨B, 1, none⟩ = some v3 ∧ Rest w B x y ps fs w1) (hb : Below w1.heap.size w1 w2) :
    w2.cell? ⟨w.heap.size, 0, none⟩ = some v0 ∧ w2.cell? ⟨w.heap.size, 1, none⟩ = some v1 ∧ w2.cell? ⟨B, 0, none⟩ = some v2 ∧ w2.cell? ⟨B, 1, none⟩ = some v3 ∧ Rest w B x y ps fs w2 := by
  obtain ⟨s0, s1, s2, s3, s4⟩ := s
  have hl := s4.2.1
  obtain ⟨hc, _⟩ := bcell hb
  exact ⟨(hc _ _ (by omega)).trans s0, (hc _ _ (by omega)).trans s1, (hc _ _ (by omega)).trans s2, (hc _ _ (by omega)).trans s3, s4.below hb⟩

/-- .. and nothing that lay in an earlier world has turned. -/
def Rest' (w : World) (B x y : Nat) (ps fs : List Int) (w0 w' : World) : Prop := Rest w B x y ps fs w' ∧ Below w0.heap.size w0 w'
theorem rest_of {w w0 w1 : World} {B x y : Nat} {ps fs : List Int} {v0 v1 v2 v3 : Value}
    (s : w1.cell? ⟨w.heap.size, 0, none⟩ = some v0 ∧ w1.cell? ⟨w.heap.size, 1, none⟩ = some v1 ∧ w1.cell? ⟨B, 0, none⟩ = some v2 ∧ w1.cell? ⟨B, 1, none⟩ = some v3 ∧ Rest' w B x y ps fs w0 w1) :
    w1.cell? ⟨w.heap.size, 0, none⟩ = some v0 ∧ w1.cell? ⟨w.heap.size, 1, none⟩ = some v1 ∧ w1.cell? ⟨B, 0, none⟩ = some v2 ∧ w1.cell? ⟨B, 1, none⟩ = some v3 ∧ Rest w B x y ps fs w1 := ⟨s.1, s.2.1, s.2.2.1, s.2.2.2.1, s.2.2.2.2.1⟩
theorem rest_step' {w w0 w1 w2 : World} {B x y : Nat} {ps fs : List Int} {v0 v1 v2 v3 : Value} (hB : w.heap.size < B)
    (s : w1.cell? ⟨w.heap.size, 0, none⟩ = some v0 ∧ w1.cell? ⟨w.heap.size, 1, none⟩ = some v1 ∧ w1.cell? ⟨B, 0, none⟩ = some v2 ∧ w1.cell? ⟨B, 1, none⟩ = some v3 ∧ Rest' w B x y ps fs w0 w1) (hb : Below w1.heap.size w1 w2) :
    w2.cell? ⟨w.heap.size, 0, none⟩ = some v0 ∧ w2.cell? ⟨w.heap.size, 1, none⟩ = some v1 ∧ w2.cell? ⟨B, 0, none⟩ = some v2 ∧ w2.cell? ⟨B, 1, none⟩ = some v3 ∧ Rest' w B x y ps fs w0 w2 := by
  obtain ⟨q0, q1, q2, q3, q4⟩ := rest_step hB (rest_of s) hb
  have := s.2.2.2.2.2
  exact ⟨q0, q1, q2, q3, q4, this.trans (hb.mono this.size)⟩
theorem toP_held {w w1 : World} {a b : Option Addr} {n m c d B x y : Nat} {ps fs : List Int} {v0 v1 v2 v3 : Value} (HA : Hid (ARow w a ps)) (HB : Hid (ARow w b fs)) (HN : Hid (ps.length = n)) (HM : Hid (fs.length = m)) (h : n + m ≤ 1048576)
    (s : w1.cell? ⟨w.heap.size, 0, none⟩ = some v0 ∧ w1.cell? ⟨w.heap.size, 1, none⟩ = some v1 ∧ w1.cell? ⟨B, 0, none⟩ = some v2 ∧ w1.cell? ⟨B, 1, none⟩ = some v3 ∧ Rest w B x y ps fs w1) :
    Calls Try.prog 14 #[.agg #[.slice a n c, .slice b m d]] w1 fun e w' => ∃ x3 y3, e = .returned (.agg #[.slice (some ⟨x3, 0, none⟩) n n, .slice (some ⟨y3, 0, none⟩) m m]) ∧ Below w1.heap.size w1 w' ∧ Hid (ARow w' (some ⟨x3, 0, none⟩) ps) ∧ Hid (ARow w' (some ⟨y3, 0, none⟩) fs) := by
  refine (toP_any HN.out HM.out (by omega) (by omega) (HA.out.below s.2.2.2.2.1) (HB.out.below s.2.2.2.2.1)).mono ?_
  rintro e w2 ⟨x1, y1, rfl, hb2, _, _, _, own1, own2⟩
  exact ⟨x1, y1, rfl, hb2, arow_owns HN.out.symm own1, arow_owns HM.out.symm own2⟩
theorem eqP_held {w w1 : World} {n m B x y x3 y3 : Nat} {ps fs : List Int} {v0 v1 v2 v3 : Value} (HN : Hid (ps.length = n)) (HM : Hid (fs.length = m)) (h : n + m ≤ 1048576)
    (s : w1.cell? ⟨w.heap.size, 0, none⟩ = some v0 ∧ w1.cell? ⟨w.heap.size, 1, none⟩ = some v1 ∧ w1.cell? ⟨B, 0, none⟩ = some v2 ∧ w1.cell? ⟨B, 1, none⟩ = some v3 ∧ Rest w B x y ps fs w1) (R3 : Hid (ARow w1 (some ⟨x3, 0, none⟩) ps)) (R4 : Hid (ARow w1 (some ⟨y3, 0, none⟩) fs)) :
    Calls Try.prog 16 #[.agg #[.slice (some ⟨x, 0, none⟩) n n, .slice (some ⟨y, 0, none⟩) m m], .agg #[.slice (some ⟨x3, 0, none⟩) n n, .slice (some ⟨y3, 0, none⟩) m m]] w1 fun e w' => e = .returned (.bool true) ∧ Below w1.heap.size w1 w' :=
  eqP_any HN.out HM.out (by omega) (by omega) s.2.2.2.2.2.2.1 s.2.2.2.2.2.2.2 R3.out R4.out

end Go.Proofs.Ytolkhobedokciaa
