/-
  Lists of lists of yes and no as answers, nothing or not: read, marked, held.
-/
import Derived.Test.YtcniegaogdggaaaQza
namespace Go.Proofs.Ytcniegaogdggaaa
open Go.RowKit

/-- An answer that can be read. -/
def GRd (w : World) (v : Value) (F : List (List Bool)) : Prop := ∃ a c, v = .slice a F.length c ∧ GRow w a F
theorem GRd.below {w w' : World} {v : Value} {F : List (List Bool)} (h : GRd w v F) (hb : Below w.heap.size w w') : GRd w' v F := by
  obtain ⟨a, c, h1, h2⟩ := h
  exact ⟨a, c, h1, h2.below hb⟩
/-- An answer of one's own, from lo on and below hi. -/
def GA (w : World) (lo hi : Nat) (v : Value) (F : List (List Bool)) : Prop := (F = [] ∧ v = .slice none 0 0) ∨ ∃ B, v = .slice (some ⟨B, 0, none⟩) F.length F.length ∧ lo ≤ B ∧ GOw w B hi F
theorem GA.below {w w' : World} {lo hi : Nat} {v : Value} {F : List (List Bool)} (h : GA w lo hi v F) (hb : Below w.heap.size w w') : GA w' lo hi v F := by
  rcases h with h | ⟨B, h1, h2, h3⟩
  · exact Or.inl h
  · exact Or.inr ⟨B, h1, h2, h3.below hb⟩
theorem GA.rng {w w' : World} {lo hi a b : Nat} {v : Value} {F : List (List Bool)} (h : GA w lo hi v F) (hr : Rng a b w w') (hd : b ≤ lo) : GA w' lo hi v F := by
  rcases h with h | ⟨B, h1, h2, h3⟩
  · exact Or.inl h
  · exact Or.inr ⟨B, h1, h2, h3.rng hr (by omega)⟩
theorem GA.rd {w : World} {lo hi : Nat} {v : Value} {F : List (List Bool)} (h : GA w lo hi v F) : GRd w v F := by
  rcases h with ⟨h1, h2⟩ | ⟨B, h1, h2, h3⟩
  · subst h1; exact ⟨none, 0, h2, Or.inl rfl⟩
  · exact ⟨_, _, h1, h3.row⟩
/-- What is marked and held from 1 on. -/
def GH (w : World) (v : Value) (m n : Nat) : Prop := (m = 0 ∧ v = .slice none 0 0) ∨ ∃ B gs, v = .slice (some ⟨B, 0, none⟩) m m ∧ MHb9 w n m B gs 1
theorem GH.below {w w' : World} {v : Value} {m n : Nat} (h : GH w v m n) (hb : Below w.heap.size w w') : GH w' v m n := by
  rcases h with h | ⟨B, gs, h1, h2⟩
  · exact Or.inl h
  · exact Or.inr ⟨B, gs, h1, h2.below hb⟩
theorem eq_ga {w : World} {v v' : Value} {F : List (List Bool)} {m : Nat} (hm : F.length = m) (hm1 : m ≤ 1000) (hn : ∀ i, i < m → (F.getD i []).length ≤ 1048576) (h1 : GRd w v F) (h2 : GRd w v' F) :
    Calls Try.prog 34 #[v, v'] w fun e w' => e = .returned (.bool true) ∧ Below w.heap.size w w' := by
  obtain ⟨a, c, rfl, r1⟩ := h1
  obtain ⟨a', c', rfl, r2⟩ := h2
  rw [hm]
  rcases r1 with h | h
  · subst h
    obtain rfl : m = 0 := by simpa using hm.symm
    exact (eqG9_zero _ _ _ _ _).mono fun e w' h => ⟨h.1, by rw [h.2]; exact Below.refl _ _⟩
  · rcases r2 with h' | h'
    · subst h'
      obtain rfl : m = 0 := by simpa using hm.symm
      exact (eqG9_zero _ _ _ _ _).mono fun e w' h => ⟨h.1, by rw [h.2]; exact Below.refl _ _⟩
    · have e1 := h
      have e2 := h'
      obtain ⟨b, o, rfl, _⟩ := e1
      obtain ⟨b', o', rfl, _⟩ := e2
      exact eqG_b hm (by omega) hn (Or.inr h) (Or.inr h')
theorem mark_ga {w : World} {lo hi : Nat} {v : Value} {F : List (List Bool)} {m n : Nat} (hm : F.length = m) (hm1 : m ≤ 1000) (hn1 : n ≤ 1000) (hn : ∀ i, i < m → (F.getD i []).length = n) (h : GA w lo hi v F) :
    Calls Try.prog 35 #[v, .int .i64 1] w fun e w' => e = .returned (.int .i64 (1 + ((m * n : Nat) : Int))) ∧ GH w' v m n ∧ Below lo w w' := by
  rcases h with ⟨h1, rfl⟩ | ⟨B, rfl, h2, h3⟩
  · subst h1
    obtain rfl : m = 0 := by simpa using hm.symm
    refine (markG9_zero _ _ _ _).mono fun e w' h => ⟨by rw [h.1]; simp, Or.inl ⟨rfl, rfl⟩, by rw [h.2]; exact Below.refl _ _⟩
  · obtain ⟨gs, hnow⟩ := h3.now hm hn
    rw [hm]
    exact (markG9_any (hide hnow) hn1 hm1 (by omega) (by omega)).mono fun e w' h => ⟨h.1, Or.inr ⟨B, gs, rfl, h.2.1⟩, h.2.2.1.mono h2⟩
theorem held_ga {w : World} {v : Value} {m n : Nat} (hm1 : m ≤ 1000) (hn1 : n ≤ 1000) (h : GH w v m n) :
    Calls Try.prog 36 #[v, .int .i64 1] w fun e w' => e = .returned (.int .i64 (1 + ((m * n : Nat) : Int))) ∧ w' = w := by
  rcases h with ⟨rfl, rfl⟩ | ⟨B, gs, rfl, h2⟩
  · exact (heldG9_zero _ _ _ _).mono fun e w' h => ⟨by rw [h.1]; simp, h.2⟩
  · exact heldG9_any (hide h2) hn1 hm1 (by omega) (by omega)
theorem Off2.rng {w w' : World} {x y a b : Nat} (h : Off2 w w' x y) (h1 : a ≤ x) (h2 : x < b) (h3 : a ≤ y) (h4 : y < b) : Rng a b w w' := ⟨h.os, h.tape, h.output, h.size, fun c hc hd => h.block c hc (by omega) (by omega)⟩
theorem taL_len (C : List (List Int)) (us vs : List Int) : (Hu.taL C us vs).length = if Hu.bothB C us vs then C.length else 0 := by
  unfold Hu.taL
  split
  · exact tightL_len C us vs
  · rfl
theorem taL_row {C : List (List Int)} {us vs : List Int} {i : Nat} (h : i < (Hu.taL C us vs).length) : ((Hu.taL C us vs).getD i []).length = (Hu.taL C us vs).length := by
  unfold Hu.taL at h ⊢
  split
  · rename_i hb
    rw [if_pos hb, tightL_len] at h
    rw [tightL_get _ _ _ h, tightR_len, tightL_len]
  · rename_i hb
    rw [if_neg hb] at h
    simp at h
theorem taL_le {C : List (List Int)} {us vs : List Int} : (Hu.taL C us vs).length ≤ 10 := by
  rw [taL_len]
  split
  · rename_i h; exact (Hu.costB_len (Hu.bothB_yes h).1).2
  · omega
theorem ta_w {e a b : Option Addr} {l n m f c d : Nat} {C : List (List Int)} {us vs : List Int} {w : World} (hl : C.length = l) (hn : us.length = n) (hm : vs.length = m) (hc : CRow w e C) (ha : ARow w a us) (hb : ARow w b vs) :
    Calls Try.prog 33 #[.slice e l f, .agg #[.slice a n c, .slice b m d]] w fun e w' => ∃ v, e = .returned (.tuple #[v, .bool (Hu.bothB C us vs)]) ∧ Below w.heap.size w w' ∧ GA w' w.heap.size w'.heap.size v (Hu.taL C us vs) := by
  cases hg : Hu.bothB C us vs
  · exact (ta_no hg hl hn hm hc ha hb).mono fun e w' h => ⟨_, h.1, h.2, Or.inl ⟨by simp [Hu.taL, hg], rfl⟩⟩
  · obtain ⟨g1, g2, g3⟩ := Hu.bothB_yes hg
    have g4 := (Hu.prB_yes g2).1
    obtain rfl : n = l := by omega
    obtain rfl : m = n := by omega
    refine (ta_yes hg hl hn hm hc ha hb).mono ?_
    rintro e w' ⟨B, h1, h2, h3, h4⟩
    have e1 : Hu.taL C us vs = Hu.tightL C us vs := by simp [Hu.taL, hg]
    exact ⟨_, h1, h3, Or.inr ⟨B, by rw [e1, tightL_len, hl], h2, by rw [e1]; exact h4⟩⟩
theorem sta_w {e a b : Option Addr} {l n m f c d : Nat} {C : List (List Int)} {us vs : List Int} {w : World} (hl : C.length = l) (hl1 : l ≤ 1048576) (hn : us.length = n) (hm : vs.length = m) (hc : CRow w e C) (ha : ARow w a us) (hb : ARow w b vs) :
    Calls Try.prog 32 #[.slice e l f, .agg #[.slice a n c, .slice b m d]] w fun e w' => ∃ v, e = .returned (.tuple #[v, .bool (Hu.bothB C us vs)]) ∧ Below w.heap.size w w' ∧ GRd w' v (Hu.taL C us vs) := by
  cases hg : Hu.bothB C us vs
  · exact (sta_no hg hl hl1 hn hm hc ha hb).mono fun e w' h => ⟨_, h.1, h.2, ⟨none, 0, by simp [Hu.taL, hg], Or.inl (by simp [Hu.taL, hg])⟩⟩
  · obtain ⟨g1, g2, g3⟩ := Hu.bothB_yes hg
    have g4 := (Hu.prB_yes g2).1
    obtain rfl : n = l := by omega
    obtain rfl : m = n := by omega
    refine (sta_yes hg hl hn hm hc ha hb).mono ?_
    rintro e w' ⟨G, D, h1, h2, h3⟩
    have e1 : Hu.taL C us vs = Hu.tightL C us vs := by simp [Hu.taL, hg]
    exact ⟨_, h1, h2, ⟨_, D, by rw [e1, tightL_len, hl], by rw [e1]; exact h3⟩⟩
end Go.Proofs.Ytcniegaogdggaaa
