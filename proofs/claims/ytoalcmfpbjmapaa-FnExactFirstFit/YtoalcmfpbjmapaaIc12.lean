/-
  Packings, plain: box by box, number by number.
-/
import Derived.Test.YtoalcmfpbjmapaaIa12
namespace Go.Proofs.Ytoalcmfpbjmapaa.It

/-- The numbers of one box, each within and not seen yet: what is seen then, and what the box holds. -/
def boxW (l : List Int) : List Int → List Int → Int → Option (List Int × Int)
  | [], seen, held => some (seen, held)
  | k :: ks, seen, held => if Pf.inB k 0 ((l.length : Int) - 1) && !seen.contains k then boxW l ks (seen ++ [k]) (held + l.getD k.toNat 0) else none
def packW (l : List Int) : List (List Int) → List Int → Option (List Int)
  | [], seen => some seen
  | b :: bs, seen => match boxW l b seen 0 with
    | none => none
    | some (s, h) => if !b.isEmpty && decide (h ≤ 20) then packW l bs s else none
def packB (l : List Int) (F : List (List Int)) : Bool := match packW l F [] with
  | none => false
  | some s => s.length == l.length
def ipB (l : List Int) (F : List (List Int)) : Bool := goodB l && packB l F
def waI (l : List Int) (F : List (List Int)) : Int := if ipB l F then 20 * (F.length : Int) - l.sum else 0

theorem int_few : ∀ (n : Nat) (s : List Int), s.Nodup → (∀ x ∈ s, 0 ≤ x ∧ x < (n : Int)) → s.length ≤ n
  | 0, s, _, h => by
    cases s with
    | nil => simp
    | cons x t => have := h x (by simp); omega
  | n + 1, s, hd, h => by
    by_cases hm : (n : Int) ∈ s
    · have ih := int_few n (s.erase (n : Int)) (hd.erase _) (fun x hx => by
        have h1 := h x (List.mem_of_mem_erase hx)
        have h2 : x ≠ (n : Int) := fun e => by subst e; exact (List.Nodup.not_mem_erase hd) hx
        omega)
      rw [List.length_erase_of_mem hm] at ih
      omega
    · have ih := int_few n s hd (fun x hx => by
        have h1 := h x hx
        have h2 : x ≠ (n : Int) := fun e => hm (e ▸ hx)
        omega)
      omega
/-- Numbers that were seen. -/
def Ok (l s : List Int) : Prop := s.Nodup ∧ ∀ x ∈ s, 0 ≤ x ∧ x < (l.length : Int)
theorem Ok.nil (l : List Int) : Ok l [] := ⟨List.nodup_nil, fun _ h => by simp at h⟩
theorem Ok.add {l s : List Int} {k : Int} (h : Ok l s) (hk : Pf.inB k 0 ((l.length : Int) - 1) = true) (hc : s.contains k = false) : Ok l (s ++ [k]) := by
  have hb := Pf.inB_yes hk
  have hm : ¬ k ∈ s := by simpa using hc
  refine ⟨?_, fun x hx => ?_⟩
  · rw [List.nodup_append]
    refine ⟨h.1, by simp, fun a ha b hb' => ?_⟩
    simp at hb'
    subst hb'
    exact fun e => hm (e ▸ ha)
  · rcases List.mem_append.1 hx with hx | hx
    · exact h.2 x hx
    · simp at hx; subst hx; omega
theorem Ok.few {l s : List Int} (h : Ok l s) : s.length ≤ l.length := int_few _ _ h.1 h.2
theorem drop_at {α : Type} {l : List α} {k : Nat} (d : α) (h : k < l.length) : l.drop k = l.getD k d :: l.drop (k + 1) := by
  rw [List.drop_eq_getElem_cons h]; simp [h]
/-- What one box's walk keeps. -/
def BW (l b s0 : List Int) (j : Nat) (s : List Int) (h : Int) : Prop := boxW l b s0 0 = boxW l (b.drop j) s h ∧ Ok l s ∧ 0 ≤ h ∧ h ≤ 20 * (s.length : Int) ∧ (h = 0 ↔ j = 0)
theorem bw_start {l b s0 : List Int} (h : Ok l s0) : BW l b s0 0 s0 0 := ⟨by rw [List.drop_zero], h, by omega, by omega, by simp⟩
theorem bw_step {l b s0 s : List Int} {j : Nat} {h : Int} (hg : goodB l = true) (hb : BW l b s0 j s h) (hj : j < b.length) (hk : Pf.inB (b.getD j 0) 0 ((l.length : Int) - 1) = true) (hc : s.contains (b.getD j 0) = false) :
    BW l b s0 (j + 1) (s ++ [b.getD j 0]) (h + l.getD (b.getD j 0).toNat 0) := by
  obtain ⟨h1, h2, h3, h4, h5⟩ := hb
  have hb := Pf.inB_yes hk
  have hv := good_at hg (i := (b.getD j 0).toNat) (by omega)
  refine ⟨?_, h2.add hk hc, by omega, by rw [List.length_append]; simp only [List.length_cons, List.length_nil]; omega, by omega⟩
  rw [h1, drop_at 0 hj, boxW, hk, hc]; rfl
theorem bw_no {l b s0 s : List Int} {j : Nat} {h : Int} (hb : BW l b s0 j s h) (hj : j < b.length) (hk : (Pf.inB (b.getD j 0) 0 ((l.length : Int) - 1) && !s.contains (b.getD j 0)) = false) : boxW l b s0 0 = none := by
  rw [hb.1, drop_at 0 hj, boxW, hk]; rfl
theorem bw_end {l b s0 s : List Int} {j : Nat} {h : Int} (hb : BW l b s0 j s h) (hj : b.length ≤ j) : boxW l b s0 0 = some (s, h) := by
  rw [hb.1, List.drop_eq_nil_of_le hj]; rfl
/-- What the walk over boxes keeps. -/
def PW (l : List Int) (F : List (List Int)) (k : Nat) (s : List Int) : Prop := packW l F [] = packW l (F.drop k) s ∧ Ok l s
theorem pw_start {l : List Int} {F : List (List Int)} : PW l F 0 [] := ⟨by rw [List.drop_zero], Ok.nil l⟩
theorem pw_none {l : List Int} {F : List (List Int)} {k : Nat} {s : List Int} (hp : PW l F k s) (hk : k < F.length) (h : boxW l (F.getD k []) s 0 = none) : packB l F = false := by
  unfold packB
  rw [hp.1, drop_at [] hk, packW, h]
theorem pw_bad {l : List Int} {F : List (List Int)} {k : Nat} {s s' : List Int} {h' : Int} (hp : PW l F k s) (hk : k < F.length) (h : boxW l (F.getD k []) s 0 = some (s', h')) (hb : (!(F.getD k []).isEmpty && decide (h' ≤ 20)) = false) : packB l F = false := by
  unfold packB
  rw [hp.1, drop_at [] hk, packW, h]
  simp only [hb]; rfl
theorem pw_step {l : List Int} {F : List (List Int)} {k : Nat} {s s' : List Int} {h' : Int} (hp : PW l F k s) (hk : k < F.length) (ho : Ok l s') (h : boxW l (F.getD k []) s 0 = some (s', h')) (hb : (!(F.getD k []).isEmpty && decide (h' ≤ 20)) = true) : PW l F (k + 1) s' := by
  refine ⟨?_, ho⟩
  rw [hp.1, drop_at [] hk, packW, h]
  simp only [hb]; rfl
theorem pw_end {l : List Int} {F : List (List Int)} {k : Nat} {s : List Int} (hp : PW l F k s) (hk : F.length ≤ k) : packB l F = (s.length == l.length) := by
  unfold packB
  rw [hp.1, List.drop_eq_nil_of_le hk]; rfl
/-- Sizes are above 0: just an empty box holds 0. -/
theorem held_eq {b : List Int} {h : Int} (h0 : 0 ≤ h) (hz : h = 0 ↔ b.length = 0) : Pf.inB h 1 20 = (!b.isEmpty && decide (h ≤ 20)) := by
  cases b with
  | nil =>
    obtain rfl : h = 0 := hz.2 rfl
    rfl
  | cons x t =>
    have : h ≠ 0 := fun e => by have := hz.1 e; simp at this
    simp [Pf.inB]
    omega
end Go.Proofs.Ytoalcmfpbjmapaa.It
