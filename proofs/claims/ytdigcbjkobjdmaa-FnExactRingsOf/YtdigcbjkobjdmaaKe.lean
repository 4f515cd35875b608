/-
  Plain facts, of no program: spots and wanted ones; each move takes one at most of what is needed, and the planned one just one (Knuth).
-/
import Derived.Test.YtdigcbjkobjdmaaKd
namespace Go.Proofs.Ytdigcbjkobjdmaa.Mv

abbrev Fn := Nat → Int
/-- Spots: numbers of 0 on, no good twice, one free at least. -/
structure Sp (n : Nat) (a : Fn) : Prop where
  ge : ∀ i, i < n → 0 ≤ a i
  inj : ∀ i j, i < n → j < n → 0 < a i → a i = a j → i = j
  fre : ∃ i, i < n ∧ a i = 0
/-- The same goods. -/
structure Two (n : Nat) (a b : Fn) : Prop where
  sa : Sp n a
  sb : Sp n b
  ab : ∀ i, i < n → 0 < a i → ∃ j, j < n ∧ b j = a i
  ba : ∀ i, i < n → 0 < b i → ∃ j, j < n ∧ a j = b i
theorem Two.turn {n : Nat} {a b : Fn} (h : Two n a b) : Two n b a := ⟨h.sb, h.sa, h.ba, h.ab⟩
/-- Where a good is. -/
def spot (n : Nat) (b : Fn) (g : Int) : Nat := ((List.range n).find? fun j => decide (b j = g)).getD n
theorem spot_is {n : Nat} {b : Fn} {g : Int} {j : Nat} (hj : j < n) (e : b j = g) : spot n b g < n ∧ b (spot n b g) = g := by
  unfold spot
  cases h : (List.range n).find? fun j => decide (b j = g) with
  | none => have := List.find?_eq_none.1 h j (List.mem_range.2 hj); simp [e] at this
  | some d =>
    have h1 := List.find?_some h
    have h2 := List.mem_of_find?_eq_some h
    exact ⟨List.mem_range.1 h2, by simpa using h1⟩
def Away (a b : Fn) (i : Nat) : Prop := 0 < a i ∧ b i ≠ a i
open Classical in
def nxt (n : Nat) (a b : Fn) : PF := fun i => if i < n ∧ (0 < a i ∧ b i ≠ a i) then some (spot n b (a i)) else none
theorem nxt_some {n : Nat} {a b : Fn} {i x : Nat} (h : nxt n a b i = some x) : i < n ∧ Away a b i ∧ spot n b (a i) = x := by
  unfold nxt at h
  split at h
  · rename_i e; cases h; exact ⟨e.1, e.2, rfl⟩
  · cases h
theorem nxt_of {n : Nat} {a b : Fn} {i : Nat} (h1 : i < n) (h2 : Away a b i) : nxt n a b i = some (spot n b (a i)) := by
  unfold nxt; rw [if_pos ⟨h1, h2⟩]
theorem nxt_none {n : Nat} {a b : Fn} {i : Nat} (h : ¬ (i < n ∧ Away a b i)) : nxt n a b i = none := by
  unfold nxt; exact if_neg h
theorem nxt_inj {n : Nat} {a b : Fn} (h : Two n a b) : Inj (nxt n a b) := by
  intro i j x hi hj
  obtain ⟨i1, i2, i3⟩ := nxt_some hi
  obtain ⟨j1, j2, j3⟩ := nxt_some hj
  obtain ⟨p, hp, ep⟩ := h.ab i i1 i2.1
  obtain ⟨q, hq, eq⟩ := h.ab j j1 j2.1
  have e1 := (spot_is hp ep).2
  have e2 := (spot_is hq eq).2
  rw [i3] at e1
  rw [j3] at e2
  exact h.sa.inj i j i1 j1 i2.1 (by rw [← e1, ← e2])
def away (n : Nat) (a b : Fn) [DecidablePred (Away a b)] : Nat := cnt n (Away a b)
def need (n : Nat) (a b : Fn) [DecidablePred (Away a b)] [DecidablePred (Lead (nxt n a b))] : Nat := away n a b + rings n (nxt n a b)
/-- A good goes from F to T. -/
def mv (a : Fn) (F T : Nat) : Fn := fun i => if i = T then a F else if i = F then 0 else a i
structure Can (n : Nat) (a : Fn) (F T : Nat) : Prop where
  f : F < n
  t : T < n
  af : 0 < a F
  at0 : a T = 0
theorem Can.ne {n : Nat} {a : Fn} {F T : Nat} (h : Can n a F T) : F ≠ T := fun e => by
  have h1 := h.af
  have h2 := h.at0
  rw [e] at h1
  omega
theorem mv_t (a : Fn) (F T : Nat) : mv a F T T = a F := by simp [mv]
theorem mv_f {n : Nat} {a : Fn} {F T : Nat} (h : Can n a F T) : mv a F T F = 0 := by simp [mv, h.ne]
theorem mv_else (a : Fn) {F T i : Nat} (h1 : i ≠ F) (h2 : i ≠ T) : mv a F T i = a i := by simp [mv, h1, h2]
theorem mv_cases {n : Nat} {a : Fn} {F T : Nat} (h : Can n a F T) (i : Nat) (hp : 0 < mv a F T i) : (i = T ∧ mv a F T i = a F) ∨ (i ≠ T ∧ i ≠ F ∧ mv a F T i = a i) := by
  by_cases h1 : i = T
  · subst h1; exact Or.inl ⟨rfl, mv_t _ _ _⟩
  · by_cases h2 : i = F
    · subst h2; rw [mv_f h] at hp; omega
    · exact Or.inr ⟨h1, h2, mv_else a h2 h1⟩
theorem Two.move {n : Nat} {a b : Fn} {F T : Nat} (h : Two n a b) (hc : Can n a F T) : Two n (mv a F T) b := by
  refine ⟨⟨fun i hi => ?_, fun i j hi hj hp e => ?_, ⟨F, hc.f, mv_f hc⟩⟩, h.sb, fun i hi hp => ?_, fun i hi hp => ?_⟩
  · by_cases h1 : i = T
    · subst h1; rw [mv_t]; exact h.sa.ge F hc.f
    · by_cases h2 : i = F
      · subst h2; rw [mv_f hc]; exact Int.le_refl _
      · rw [mv_else a h2 h1]; exact h.sa.ge i hi
  · have hpj : 0 < mv a F T j := by rw [← e]; exact hp
    rcases mv_cases hc i hp with ⟨i1, e1⟩ | ⟨i1, i2, e1⟩
    · rcases mv_cases hc j hpj with ⟨j1, e2⟩ | ⟨j1, j2, e2⟩
      · omega
      · rw [e1, e2] at e
        exact absurd (h.sa.inj F j hc.f hj hc.af e).symm j2
    · rcases mv_cases hc j hpj with ⟨j1, e2⟩ | ⟨j1, j2, e2⟩
      · rw [e1, e2] at e
        exact absurd (h.sa.inj i F hi hc.f (by rw [e]; exact hc.af) e) i2
      · rw [e1, e2] at e
        exact h.sa.inj i j hi hj (by rw [← e1]; exact hp) e
  · rcases mv_cases hc i hp with ⟨_, e1⟩ | ⟨_, _, e1⟩
    · rw [e1]; exact h.ab F hc.f hc.af
    · rw [e1]; exact h.ab i hi (by rw [← e1]; exact hp)
  · obtain ⟨j, hj, e⟩ := h.ba i hi hp
    by_cases h2 : j = F
    · subst h2; exact ⟨T, hc.t, by rw [mv_t]; exact e⟩
    · have h1 : j ≠ T := fun e' => by subst e'; rw [hc.at0] at e; omega
      exact ⟨j, hj, by rw [mv_else a h2 h1]; exact e⟩
theorem away_else {a b : Fn} {F T i : Nat} (h1 : i ≠ F) (h2 : i ≠ T) : Away (mv a F T) b i ↔ Away a b i := by
  unfold Away; rw [mv_else a h1 h2]
theorem nxt_else {n : Nat} {a b : Fn} {F T : Nat} : ∀ x, x ≠ F → x ≠ T → nxt n (mv a F T) b x = nxt n a b x := by
  intro x h1 h2
  by_cases h : x < n ∧ Away a b x
  · rw [nxt_of h.1 h.2, nxt_of h.1 ((away_else h1 h2).2 h.2), mv_else a h1 h2]
  · rw [nxt_none h, nxt_none fun e => h ⟨e.1, (away_else h1 h2).1 e.2⟩]
theorem nxt_t {n : Nat} {a b : Fn} {F T : Nat} (hc : Can n a F T) : nxt n a b T = none := nxt_none fun e => by
  have h1 := e.2.1
  have h2 := hc.at0
  omega
theorem nxt_f {n : Nat} {a b : Fn} {F T : Nat} (hc : Can n a F T) : nxt n (mv a F T) b F = none := nxt_none fun e => by
  have h1 := e.2.1
  rw [mv_f hc] at h1
  omega
theorem not_away_t {n : Nat} {a b : Fn} {F T : Nat} (hc : Can n a F T) : ¬ Away a b T := fun e => by
  have h1 := e.1
  have h2 := hc.at0
  omega
theorem not_away_f {n : Nat} {a b : Fn} {F T : Nat} (hc : Can n a F T) : ¬ Away (mv a F T) b F := fun e => by
  have h1 := e.1
  rw [mv_f hc] at h1
  omega
open Classical in
/-- To where it is wanted: just one less is needed. -/
theorem need_home {n : Nat} {a b : Fn} {F T : Nat} (h : Two n a b) (hc : Can n a F T) (ht : b T = a F) : need n a b = need n (mv a F T) b + 1 := by
  have hbF : b F ≠ a F := fun e => hc.ne (h.sb.inj F T hc.f hc.t (by rw [e]; exact hc.af) (by rw [e, ht]))
  have hF : Away a b F := ⟨hc.af, hbF⟩
  have hT' : ¬ Away (mv a F T) b T := fun e => e.2 (by rw [mv_t]; exact ht)
  have e1 : away n a b = away n (mv a F T) b + 1 := by
    refine cnt_more (x := F) (not_away_f hc) n hc.f fun i _ => ?_
    by_cases h1 : i = F
    · subst h1; exact ⟨fun _ => Or.inr rfl, fun _ => hF⟩
    · by_cases h2 : i = T
      · subst h2
        refine ⟨fun e => absurd e (not_away_t hc), fun e => ?_⟩
        rcases e with e | e
        · exact absurd e hT'
        · exact absurd e h1
      · rw [away_else h1 h2]
        exact ⟨Or.inl, fun e => e.resolve_right h1⟩
  have hsF : nxt n a b F = some T := by
    rw [nxt_of hc.f hF]
    obtain ⟨p, q⟩ := spot_is hc.t ht
    exact congrArg some (h.sb.inj _ _ p hc.t (by rw [q]; exact hc.af) (by rw [q, ht]))
  have e2 : rings n (nxt n a b) = rings n (nxt n (mv a F T) b) := by
    refine rings_same nxt_else (nxt_t hc) (nxt_f hc) (nxt_none fun e => hT' e.2) fun hr => ?_
    have := (hr.back ⟨1, by rw [it_one]; exact hsF⟩).1
    obtain ⟨x, hx⟩ := this.some
    rw [nxt_t hc] at hx; cases hx
  unfold need; omega
open Classical in
/-- Whatever is moved: one less at most is needed. -/
theorem need_move {n : Nat} {a b : Fn} {F T : Nat} (h : Two n a b) (hc : Can n a F T) : need n a b ≤ need n (mv a F T) b + 1 := by
  by_cases ht : b T = a F
  · exact Nat.le_of_eq (need_home h hc ht)
  have hT' : Away (mv a F T) b T := ⟨by rw [mv_t]; exact hc.af, by rw [mv_t]; exact ht⟩
  by_cases hb : b F = a F
  · have hF : ¬ Away a b F := fun e => e.2 hb
    have e1 : away n (mv a F T) b = away n a b + 1 := by
      refine cnt_more (x := T) (not_away_t hc) n hc.t fun i _ => ?_
      by_cases h2 : i = T
      · subst h2; exact ⟨fun _ => Or.inr rfl, fun _ => hT'⟩
      · by_cases h1 : i = F
        · subst h1
          refine ⟨fun e => absurd e (not_away_f hc), fun e => ?_⟩
          rcases e with e | e
          · exact absurd e hF
          · exact absurd e h2
        · rw [away_else h1 h2]
          exact ⟨Or.inl, fun e => e.resolve_right h2⟩
    have e2 : rings n (nxt n a b) ≤ rings n (nxt n (mv a F T) b) := rings_keep nxt_else (nxt_t hc) fun hr => by
      obtain ⟨x, hx⟩ := hr.some
      exact hF (nxt_some hx).2.1
    unfold need; omega
  · have hF : Away a b F := ⟨hc.af, hb⟩
    have e1 : away n a b = cnt n (fun i => Away a b i ∧ i ≠ F) + 1 := by
      refine cnt_more (x := F) (fun e => e.2 rfl) n hc.f fun i _ => ?_
      by_cases h1 : i = F
      · subst h1; exact ⟨fun _ => Or.inr rfl, fun _ => hF⟩
      · exact ⟨fun e => Or.inl ⟨e, h1⟩, fun e => (e.resolve_right h1).1⟩
    have e2 : away n (mv a F T) b = cnt n (fun i => Away a b i ∧ i ≠ F) + 1 := by
      refine cnt_more (x := T) (fun e => not_away_t hc e.1) n hc.t fun i _ => ?_
      by_cases h2 : i = T
      · subst h2; exact ⟨fun _ => Or.inr rfl, fun _ => hT'⟩
      · by_cases h1 : i = F
        · subst h1
          refine ⟨fun e => absurd e (not_away_f hc), fun e => ?_⟩
          rcases e with e | e
          · exact absurd rfl e.2
          · exact absurd e h2
        · rw [away_else h1 h2]
          exact ⟨fun e => Or.inl ⟨e, h1⟩, fun e => (e.resolve_right h2).1⟩
    have e3 : rings n (nxt n a b) ≤ rings n (nxt n (mv a F T) b) + 1 := rings_drop nxt_else (nxt_t hc)
    unfold need; omega
open Classical in
/-- No good that is elsewhere has its place free: whichever is moved off, just one less is needed. -/
theorem need_off {n : Nat} {a b : Fn} {F T : Nat} (h : Two n a b) (hc : Can n a F T) (hF : Away a b F) (hno : ∀ k, k < n → 0 < b k → a k ≠ 0) : need n a b = need n (mv a F T) b + 1 := by
  have ht : b T ≠ a F := fun e => hno T hc.t (by rw [e]; exact hc.af) hc.at0
  have hT' : Away (mv a F T) b T := ⟨by rw [mv_t]; exact hc.af, by rw [mv_t]; exact ht⟩
  have e1 : away n a b = cnt n (fun i => Away a b i ∧ i ≠ F) + 1 := by
    refine cnt_more (x := F) (fun e => e.2 rfl) n hc.f fun i _ => ?_
    by_cases h1 : i = F
    · subst h1; exact ⟨fun _ => Or.inr rfl, fun _ => hF⟩
    · exact ⟨fun e => Or.inl ⟨e, h1⟩, fun e => (e.resolve_right h1).1⟩
  have e2 : away n (mv a F T) b = cnt n (fun i => Away a b i ∧ i ≠ F) + 1 := by
    refine cnt_more (x := T) (fun e => not_away_t hc e.1) n hc.t fun i _ => ?_
    by_cases h2 : i = T
    · subst h2; exact ⟨fun _ => Or.inr rfl, fun _ => hT'⟩
    · by_cases h1 : i = F
      · subst h1
        refine ⟨fun e => absurd e (not_away_f hc), fun e => ?_⟩
        rcases e with e | e
        · exact absurd rfl e.2
        · exact absurd e h2
      · rw [away_else h1 h2]
        exact ⟨fun e => Or.inl ⟨e, h1⟩, fun e => (e.resolve_right h2).1⟩
  have hring : Ring (nxt n a b) F := by
    refine ring_of (n := n) (nxt_inj h) (P := fun i => i < n ∧ Away a b i) (fun i hi => ⟨hi.1, spot n b (a i), nxt_of hi.1 hi.2, ?_⟩) ⟨hc.f, hF⟩
    obtain ⟨p, hp, ep⟩ := h.ab i hi.1 hi.2.1
    obtain ⟨s1, s2⟩ := spot_is hp ep
    have h0 := hi.2.1
    have h1 := hno _ s1 (by rw [s2]; exact h0)
    have h2 := h.sa.ge _ s1
    refine ⟨s1, by omega, fun e => ?_⟩
    have h3 := h.sa.inj i _ hi.1 s1 h0 (by rw [← e, s2])
    rw [← h3] at s2
    exact hi.2.2 s2
  have e3 : rings n (nxt n a b) = rings n (nxt n (mv a F T) b) + 1 := by
    refine rings_break nxt_else (nxt_t hc) (nxt_f hc) hring ?_ fun i x hx => (nxt_some hx).1
    rw [nxt_of hc.f hF, nxt_of hc.t hT', mv_t]
  unfold need; omega
open Classical in
theorem cnt_none {n : Nat} {P : Nat → Prop} (h : cnt n P = 0) : ∀ i, i < n → ¬ P i := by
  intro i hi hp
  have : cnt n (fun j => j = i) ≤ cnt n P := cnt_le n fun j _ e => by subst e; exact hp
  have h1 : cnt n (fun j => j = i) = cnt n (fun _ => False) + 1 := cnt_more (x := i) (fun e => e) n hi fun j _ => ⟨Or.inr, fun e => e.resolve_left (fun f => f)⟩
  omega
open Classical in
/-- Nothing is needed just where all is as wanted. -/
theorem need_zero {n : Nat} {a b : Fn} (h : Two n a b) : need n a b = 0 ↔ ∀ i, i < n → a i = b i := by
  constructor
  · intro h0 i hi
    have hn := cnt_none (P := Away a b) (n := n) (by unfold need away at h0; omega)
    have hA : ∀ j, j < n → 0 < a j → b j = a j := fun j hj hp => Classical.byContradiction fun e => hn j hj ⟨hp, e⟩
    have h1 := h.sa.ge i hi
    have h2 := h.sb.ge i hi
    by_cases hp : 0 < a i
    · exact (hA i hi hp).symm
    · by_cases hq : 0 < b i
      · obtain ⟨j, hj, e⟩ := h.ba i hi hq
        have h3 := hA j hj (by rw [e]; exact hq)
        have := h.sb.inj i j hi hj hq (by rw [h3, e])
        subst this; exact e
      · omega
  · intro he
    have hn : ∀ i, i < n → ¬ Away a b i := fun i hi e => e.2 (he i hi).symm
    have h1 : away n a b = 0 := by
      have := cnt_le (P := Away a b) (Q := fun _ => False) n hn
      have h2 : cnt n (fun _ => False) = 0 := by simp [cnt]
      unfold away; omega
    have h2 : rings n (nxt n a b) = 0 := by
      have := cnt_le (P := Lead (nxt n a b)) (Q := fun _ => False) n (fun i hi e => by
        obtain ⟨x, hx⟩ := e.1.some
        exact hn i hi (nxt_some hx).2.1)
      have h2 : cnt n (fun _ => False) = 0 := by simp [cnt]
      unfold rings; omega
    unfold need; omega
open Classical in
/-- Twice as many as goods at most. -/
theorem need_bd {n : Nat} {a b : Fn} (h : Two n a b) : need n a b + 2 ≤ 2 * n := by
  obtain ⟨z, hz, ez⟩ := h.sa.fre
  have hzn : ¬ Away a b z := fun e => by have := e.1; omega
  have h1 : cnt n (fun i => Away a b i ∨ i = z) = away n a b + 1 := cnt_more (x := z) hzn n hz fun i _ => Iff.rfl
  have h2 := cnt_all n (fun i => Away a b i ∨ i = z)
  have h3 : rings n (nxt n a b) ≤ away n a b := cnt_le n fun i _ e => by
    obtain ⟨x, hx⟩ := e.1.some
    exact (nxt_some hx).2.1
  unfold need; omega

/-- Moves one after the other. -/
def play : List (Nat × Nat) → Fn → Fn
  | [], a => a
  | m :: r, a => play r (mv a m.1 m.2)
def CanAll (n : Nat) : List (Nat × Nat) → Fn → Prop
  | [], _ => True
  | m :: r, a => Can n a m.1 m.2 ∧ CanAll n r (mv a m.1 m.2)
open Classical in
/-- No moves that lead there are fewer than needed. -/
theorem fewest {n : Nat} {b : Fn} : ∀ (l : List (Nat × Nat)) {a : Fn}, Two n a b → CanAll n l a → need n a b ≤ l.length + need n (play l a) b
  | [], a, _, _ => by show need n a b ≤ 0 + need n a b; omega
  | m :: r, a, h, hc => by
    have h1 := need_move h hc.1
    have h2 := fewest r (h.move hc.1) hc.2
    have h3 : need n (mv a m.1 m.2) b ≤ r.length + need n (play (m :: r) a) b := h2
    rw [List.length_cons]; omega
end Go.Proofs.Ytdigcbjkobjdmaa.Mv
