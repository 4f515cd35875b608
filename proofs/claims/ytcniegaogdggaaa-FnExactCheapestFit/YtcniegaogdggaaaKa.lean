/-
  Plain facts, of no program: the cheapest fit by ways and prices, step by step (Kuhn; Munkres): what holds on the way.
-/
import Derived.Test.YtcniegaogdggaaaHa
namespace Go.Proofs.Ytcniegaogdggaaa.Hu

abbrev Fn := Nat → Int
def ct (c : List (List Int)) (i b : Nat) : Int := (c.getD i []).getD b 0
def upd (f : Fn) (k : Nat) (x : Int) : Fn := fun i => if i = k then x else f i
theorem upd_same (f : Fn) (k : Nat) (x : Int) : upd f k x k = x := by simp [upd]
theorem upd_else (f : Fn) {k i : Nat} (x : Int) (h : i ≠ k) : upd f k x i = f i := by simp [upd, h]
/-- Costs: n rows of n numbers in 0..100. -/
structure Good (c : List (List Int)) (n : Nat) : Prop where
  cl : ∀ i, i < n → ∀ b, b < n → 0 ≤ ct c i b ∧ ct c i b ≤ 100

/-- A way for a load that looks for a bin. -/
structure Sk where
  u : Fn
  v : Fn
  ls : Fn
  fr : Fn
  gn : Nat → Bool
  la : Int

/-- The load that is gone on from behind a bin (the new load at the beginning). -/
def ld (o : Fn) (L : Nat) (f : Int) : Nat := if f < 0 then L else (o f.toNat).toNat
/-- The load that is looked at next, below 0 where a free bin was met. -/
def nx (o : Fn) (L : Nat) (f : Int) : Int := if f < 0 then (L : Int) else o f.toNat
theorem ld_nx {o : Fn} {L : Nat} {f : Int} (h : 0 ≤ nx o L f) : nx o L f = (ld o L f : Int) := by
  unfold nx at h ⊢; unfold ld
  split
  · rfl
  · rename_i hf; rw [if_neg hf] at h; omega
def sl (c : List (List Int)) (u v : Fn) (i b : Nat) : Int := ct c i b - u i - v b
def lsN (c : List (List Int)) (o : Fn) (L : Nat) (S : Sk) : Fn := fun b => if S.gn b = false ∧ sl c S.u S.v (ld o L S.la) b < S.ls b then sl c S.u S.v (ld o L S.la) b else S.ls b
def frN (c : List (List Int)) (o : Fn) (L : Nat) (S : Sk) : Fn := fun b => if S.gn b = false ∧ sl c S.u S.v (ld o L S.la) b < S.ls b then S.la else S.fr b
/-- Of those not gone to the first with the smallest least. -/
def bestTo (ls : Fn) (gn : Nat → Bool) : Nat → Option Nat
  | 0 => none
  | k + 1 => match bestTo ls gn k with
    | none => if gn k = false then some k else none
    | some b => if gn k = false ∧ ls k < ls b then some k else some b
theorem bestTo_some {ls : Fn} {gn : Nat → Bool} : ∀ {k b}, bestTo ls gn k = some b → b < k ∧ gn b = false ∧ ∀ x, x < k → gn x = false → ls b ≤ ls x
  | 0, b, h => by simp [bestTo] at h
  | k + 1, b, h => by
    rw [bestTo] at h
    cases e : bestTo ls gn k with
    | none =>
      rw [e] at h
      simp only [] at h
      by_cases hk : gn k = false
      · rw [if_pos hk] at h; cases h
        refine ⟨by omega, hk, fun x hx hg => ?_⟩
        by_cases hxk : x = k
        · subst hxk; exact Int.le_refl _
        · exact absurd hg (by simpa using bestTo_none e x (by omega))
      · rw [if_neg hk] at h; cases h
    | some d =>
      rw [e] at h
      simp only [] at h
      obtain ⟨h1, h2, h3⟩ := bestTo_some e
      by_cases hk : gn k = false ∧ ls k < ls d
      · rw [if_pos hk] at h; cases h
        refine ⟨by omega, hk.1, fun x hx hg => ?_⟩
        by_cases hxk : x = k
        · subst hxk; exact Int.le_refl _
        · have := h3 x (by omega) hg; omega
      · rw [if_neg hk] at h; cases h
        refine ⟨by omega, h2, fun x hx hg => ?_⟩
        by_cases hxk : x = k
        · subst hxk
          have : ¬ ls x < ls b := fun h => hk ⟨hg, h⟩
          omega
        · exact h3 x (by omega) hg
where
  bestTo_none {ls : Fn} {gn : Nat → Bool} : ∀ {k}, bestTo ls gn k = none → ∀ x, x < k → gn x = true
  | 0, _, x, hx => by omega
  | k + 1, h, x, hx => by
    rw [bestTo] at h
    cases e : bestTo ls gn k with
    | none =>
      rw [e] at h
      simp only [] at h
      by_cases hk : gn k = false
      · rw [if_pos hk] at h; cases h
      · by_cases hxk : x = k
        · subst hxk; simpa using hk
        · exact bestTo_none e x (by omega)
    | some d =>
      rw [e] at h
      simp only [] at h
      split at h <;> cases h
theorem bestTo_is {ls : Fn} {gn : Nat → Bool} {n x : Nat} (hx : x < n) (hg : gn x = false) : ∃ b, bestTo ls gn n = some b := by
  cases e : bestTo ls gn n with
  | none => have := bestTo_some.bestTo_none e x hx; rw [hg] at this; cases this
  | some b => exact ⟨b, rfl⟩
/-- Whether a load is on the way. -/
def onB (n : Nat) (o : Fn) (L : Nat) (gn : Nat → Bool) (i : Nat) : Bool := decide (i = L) || (List.range n).any (fun b => gn b && decide (o b = (i : Int)))
def toN (c : List (List Int)) (n : Nat) (o : Fn) (L : Nat) (S : Sk) : Nat := (bestTo (lsN c o L S) S.gn n).getD 0
def byN (c : List (List Int)) (n : Nat) (o : Fn) (L : Nat) (S : Sk) : Int := lsN c o L S (toN c n o L S)
def step (c : List (List Int)) (n : Nat) (o : Fn) (L : Nat) (S : Sk) : Sk where
  u := fun i => if onB n o L S.gn i then S.u i + byN c n o L S else S.u i
  v := fun b => if S.gn b then S.v b - byN c n o L S else S.v b
  ls := fun b => if S.gn b then lsN c o L S b else lsN c o L S b - byN c n o L S
  fr := frN c o L S
  gn := fun b => decide (b = toN c n o L S) || S.gn b
  la := (toN c n o L S : Int)
def far : Int := 1099511627776
def start (u v : Fn) : Sk := ⟨u, v, fun _ => far, fun _ => -1, fun _ => false, -1⟩

/-- Owners of bins: each load below L has just one bin. -/
structure Ow (n : Nat) (o : Fn) (L : Nat) : Prop where
  is : ∀ b, b < n → o b = -1 ∨ (0 ≤ o b ∧ o b < (L : Int))
  inj : ∀ b, b < n → ∀ d, d < n → 0 ≤ o b → o b = o d → b = d
  sur : ∀ i, i < L → ∃ b, b < n ∧ o b = (i : Int)
theorem Ow.free {n : Nat} {o : Fn} {L : Nat} (h : Ow n o L) (hL : L < n) : ∃ b, b < n ∧ o b < 0 := by
  apply Classical.byContradiction
  intro hn
  have hall : ∀ b, b < n → 0 ≤ o b := fun b hb => by
    rcases h.is b hb with e | e
    · exact absurd ⟨b, hb, by omega⟩ hn
    · exact e.1
  have hd : ((List.range n).map fun b => (o b).toNat).Nodup := by
    rw [List.nodup_iff_pairwise_ne, List.pairwise_map]
    refine List.Pairwise.imp_of_mem ?_ (List.nodup_iff_pairwise_ne.1 List.nodup_range)
    intro a b ha hb hab e
    have ha' := List.mem_range.1 ha
    have hb' := List.mem_range.1 hb
    have h1 := hall a ha'
    have h2 := hall b hb'
    exact hab (h.inj a ha' b hb' h1 (by omega))
  have := hd.length_le_of_subset (l₂ := List.range L) (fun x hx => by
    obtain ⟨b, hb, rfl⟩ := List.mem_map.1 hx
    have hb' := List.mem_range.1 hb
    rcases h.is b hb' with e | e
    · have := hall b hb'; omega
    · exact List.mem_range.2 (by omega))
  simp at this
  omega
/-- What prices hold, whatever is on the way. -/
structure Pr (c : List (List Int)) (n : Nat) (o u v : Fn) : Prop where
  fe : ∀ i, i < n → ∀ b, b < n → u i + v b ≤ ct c i b
  ti : ∀ b, b < n → 0 ≤ o b → u (o b).toNat + v b = ct c (o b).toNat b
  vn : ∀ b, b < n → v b ≤ 0
  vz : ∀ b, b < n → o b < 0 → v b = 0
  up : ∀ i, i < n → 0 ≤ u i
theorem Pr.ub {c : List (List Int)} {n : Nat} {o u v : Fn} (h : Pr c n o u v) (hc : Good c n) {z : Nat} (hz : z < n) (hf : o z < 0) : ∀ i, i < n → u i ≤ 100 := by
  intro i hi
  have h1 := h.fe i hi z hz
  have h2 := h.vz z hz hf
  have h3 := (hc.cl i hi z hz).2
  omega
/-- What a bin can be seen from. -/
def PR (g : List Nat) (f : Int) : Prop := f = -1 ∨ ∃ b, b ∈ g ∧ f = (b : Int)
theorem PR.more {g : List Nat} {f : Int} (b : Nat) (h : PR g f) : PR (b :: g) f := by
  rcases h with e | ⟨d, hd, e⟩
  · exact Or.inl e
  · exact Or.inr ⟨d, List.mem_cons_of_mem _ hd, e⟩
theorem PR.suf {g r : List Nat} {f : Int} (h : PR r f) (hs : r <:+ g) : PR g f := by
  rcases h with e | ⟨d, hd, e⟩
  · exact Or.inl e
  · exact Or.inr ⟨d, hs.subset hd, e⟩
def lastOf : List Nat → Int
  | [] => -1
  | b :: _ => (b : Int)
theorem PR.split {g : List Nat} {f : Int} (h : PR g f) : f = lastOf g ∨ (g ≠ [] ∧ PR g.tail f) := by
  cases g with
  | nil =>
    rcases h with e | ⟨d, hd, e⟩
    · exact Or.inl e
    · cases hd
  | cons b r =>
    rcases h with e | ⟨d, hd, e⟩
    · exact Or.inr ⟨by simp, Or.inl e⟩
    · rcases List.mem_cons.1 hd with rfl | hd
      · exact Or.inl e
      · exact Or.inr ⟨by simp, Or.inr ⟨d, hd, e⟩⟩
theorem PR.last (g : List Nat) : PR g (lastOf g) := by
  cases g with
  | nil => exact Or.inl rfl
  | cons b r => exact Or.inr ⟨b, List.mem_cons_self, rfl⟩
theorem PR.of_tail {g : List Nat} {f : Int} (h : PR g.tail f) : PR g f := h.suf (List.tail_suffix g)

/-- What holds on a way; g: the bins gone to, the last one first. -/
structure In (c : List (List Int)) (n : Nat) (o : Fn) (L : Nat) (S : Sk) (g : List Nat) : Prop where
  pr : Pr c n o S.u S.v
  gl : ∀ b, b < n → (S.gn b = true ↔ b ∈ g)
  gb : ∀ b, b ∈ g → b < n
  nd : g.Nodup
  la : S.la = lastOf g
  own : ∀ b, b ∈ g.tail → 0 ≤ o b
  l0 : g = [] → ∀ b, b < n → S.ls b = far
  lo : ∀ b, b < n → b ∉ g → g ≠ [] → ∀ f, PR g.tail f → S.ls b ≤ sl c S.u S.v (ld o L f) b
  lf : ∀ b, b < n → b ∉ g → g ≠ [] → PR g.tail (S.fr b) ∧ S.ls b = sl c S.u S.v (ld o L (S.fr b)) b
  lz : ∀ b, b < n → 0 ≤ S.ls b ∧ S.ls b ≤ far
  ch : ∀ b r, (b :: r) <:+ g → PR r (S.fr b) ∧ S.u (ld o L (S.fr b)) + S.v b = ct c (ld o L (S.fr b)) b

theorem In.start {c : List (List Int)} {n : Nat} {o : Fn} {L : Nat} {u v : Fn} (h : Pr c n o u v) : In c n o L (start u v) [] where
  pr := h
  gl := fun b _ => by simp [Hu.start]
  gb := fun b hb => by cases hb
  nd := List.nodup_nil
  la := rfl
  own := fun b hb => by cases hb
  l0 := fun _ b _ => rfl
  lo := fun b _ _ h => absurd rfl h
  lf := fun b _ _ h => absurd rfl h
  lz := fun b _ => by simp [Hu.start, far]
  ch := fun b r h => by simp at h

theorem ld_lt {n : Nat} {o : Fn} {L : Nat} (ho : Ow n o L) (hL : L < n) {g : List Nat} (hg : ∀ b, b ∈ g → b < n) (hw : ∀ b, b ∈ g → 0 ≤ o b) {f : Int} (h : PR g f) : ld o L f < n := by
  rcases h with e | ⟨d, hd, e⟩
  · subst e; simpa [ld] using hL
  · subst e
    have h1 := hw d hd
    rcases ho.is d (hg d hd) with e | e
    · omega
    · have : ¬ ((d : Int) < 0) := by omega
      simp only [ld, if_neg this, Int.toNat_natCast]; omega
theorem on_iff {n : Nat} {o : Fn} {L : Nat} {g : List Nat} {gn : Nat → Bool} (hl : ∀ b, b < n → (gn b = true ↔ b ∈ g)) (hg : ∀ b, b ∈ g → b < n) (hw : ∀ b, b ∈ g → 0 ≤ o b) (i : Nat) : onB n o L gn i = true ↔ ∃ f, PR g f ∧ ld o L f = i := by
  simp only [onB, Bool.or_eq_true, decide_eq_true_eq, List.any_eq_true, List.mem_range, Bool.and_eq_true]
  constructor
  · rintro (rfl | ⟨b, hb, h1, h2⟩)
    · exact ⟨-1, Or.inl rfl, by simp [ld]⟩
    · refine ⟨(b : Int), Or.inr ⟨b, (hl b hb).1 h1, rfl⟩, ?_⟩
      have : ¬ ((b : Int) < 0) := by omega
      simp only [ld, if_neg this, Int.toNat_natCast]; omega
  · rintro ⟨f, e | ⟨d, hd, e⟩, h⟩
    · subst e; left; simpa [ld] using h.symm
    · subst e
      right
      refine ⟨d, hg d hd, (hl d (hg d hd)).2 hd, ?_⟩
      have : ¬ ((d : Int) < 0) := by omega
      simp only [ld, if_neg this, Int.toNat_natCast] at h
      have := hw d hd
      omega

/-- One bin more. -/
theorem In.step {c : List (List Int)} {n : Nat} {o : Fn} {L : Nat} {S : Sk} {g : List Nat} (hc : Good c n) (ho : Ow n o L) (hL : L < n) (h : In c n o L S g) (hx : 0 ≤ nx o L S.la) :
    bestTo (lsN c o L S) S.gn n = some (toN c n o L S) ∧ toN c n o L S < n ∧ toN c n o L S ∉ g ∧ 0 ≤ byN c n o L S ∧ byN c n o L S ≤ far ∧ In c n o L (step c n o L S) (toN c n o L S :: g) := by
  have hw : ∀ b, b ∈ g → 0 ≤ o b := by
    intro b hb
    cases g with
    | nil => cases hb
    | cons d r =>
      rcases List.mem_cons.1 hb with rfl | hb
      · have e := h.la
        rw [e] at hx
        have : ¬ ((b : Int) < 0) := by omega
        simpa [nx, lastOf, this] using hx
      · exact h.own b hb
  obtain ⟨z, hz, hzf⟩ := ho.free hL
  have hzg : z ∉ g := fun hm => by have := hw z hm; omega
  have hub := h.pr.ub hc hz hzf
  have hLa : PR g S.la := by rw [h.la]; exact PR.last g
  have ldlt : ∀ {f : Int}, PR g f → ld o L f < n := fun hf => ld_lt ho hL h.gb hw hf
  have gnf : ∀ b, b < n → b ∉ g → S.gn b = false := fun b hb hg => by
    cases e : S.gn b
    · rfl
    · exact absurd ((h.gl b hb).1 e) hg
  have ngn : ∀ b, b < n → S.gn b = false → b ∉ g := fun b hb e hm => by rw [(h.gl b hb).2 hm] at e; cases e
  have gnt : ∀ b, b ∈ g → S.gn b = true := fun b hb => (h.gl b (h.gb b hb)).2 hb
  -- what was looked at
  have slb : ∀ b, b < n → ∀ i, i < n → 0 ≤ sl c S.u S.v i b ∧ (b ∉ g → sl c S.u S.v i b ≤ 300) := fun b hb i hi => by
    have h1 := h.pr.fe i hi b hb
    refine ⟨by unfold sl; omega, fun hg => ?_⟩
    have h2 := (hc.cl i hi b hb).2
    have h3 := h.pr.up i hi
    have h4 : -100 ≤ S.v b := by
      rcases ho.is b hb with e | e
      · have := h.pr.vz b hb (by omega); omega
      · have h5 := h.pr.ti b hb e.1
        have h6 := hub (o b).toNat (by omega)
        have h7 := (hc.cl (o b).toNat (by omega) b hb).1
        omega
    unfold sl; omega
  have lf1 : ∀ b, b < n → b ∉ g → PR g (frN c o L S b) ∧ lsN c o L S b = sl c S.u S.v (ld o L (frN c o L S b)) b := by
    intro b hb hg
    by_cases e : S.gn b = false ∧ sl c S.u S.v (ld o L S.la) b < S.ls b
    · rw [lsN, frN, if_pos e, if_pos e]; exact ⟨hLa, rfl⟩
    · rw [lsN, frN, if_neg e, if_neg e]
      by_cases hn : g = []
      · exfalso
        have h1 := h.l0 hn b hb
        have h2 := (slb b hb _ (ldlt hLa)).2 hg
        refine e ⟨gnf b hb hg, ?_⟩
        rw [h1]; unfold far; omega
      · obtain ⟨h1, h2⟩ := h.lf b hb hg hn
        exact ⟨h1.of_tail, h2⟩
  have lo1 : ∀ b, b < n → b ∉ g → ∀ f, PR g f → lsN c o L S b ≤ sl c S.u S.v (ld o L f) b := by
    intro b hb hg f hf
    have hgn := gnf b hb hg
    rcases hf.split with e | ⟨hn, ht⟩
    · rw [← h.la] at e; subst e
      unfold lsN
      split
      · exact Int.le_refl _
      · rename_i e
        have : ¬ sl c S.u S.v (ld o L S.la) b < S.ls b := fun h => e ⟨hgn, h⟩
        omega
    · have h1 := h.lo b hb hg hn f ht
      unfold lsN
      split
      · rename_i e; omega
      · exact h1
  have lz1 : ∀ b, b < n → 0 ≤ lsN c o L S b ∧ lsN c o L S b ≤ far := by
    intro b hb
    have h0 := h.lz b hb
    unfold lsN
    split
    · rename_i e
      have := slb b hb _ (ldlt hLa)
      omega
    · exact h0
  obtain ⟨d, hd⟩ := bestTo_is (ls := lsN c o L S) hz (gnf z hz hzg)
  have ed : toN c n o L S = d := by simp [toN, hd]
  obtain ⟨d1, d2, d3⟩ := bestTo_some hd
  have hdg : d ∉ g := ngn d d1 d2
  have eb : byN c n o L S = lsN c o L S d := by rw [byN, ed]
  have b0 : 0 ≤ byN c n o L S := by rw [eb]; exact (lz1 d d1).1
  have bf : byN c n o L S ≤ far := by rw [eb]; exact (lz1 d d1).2
  have bm : ∀ b, b < n → b ∉ g → byN c n o L S ≤ lsN c o L S b := fun b hb hg => by rw [eb]; exact d3 b hb (gnf b hb hg)
  have uon : ∀ f, PR g f → (Hu.step c n o L S).u (ld o L f) = S.u (ld o L f) + byN c n o L S := fun f hf => by
    show (if onB n o L S.gn (ld o L f) then _ else _) = _
    rw [if_pos ((on_iff h.gl h.gb hw _).2 ⟨f, hf, rfl⟩)]
  have uoff : ∀ i, (¬ ∃ f, PR g f ∧ ld o L f = i) → (Hu.step c n o L S).u i = S.u i := fun i hi => by
    show (if onB n o L S.gn i then _ else _) = _
    rw [if_neg (fun h' => hi ((on_iff h.gl h.gb hw _).1 h'))]
  have von : ∀ b, b ∈ g → (Hu.step c n o L S).v b = S.v b - byN c n o L S := fun b hb => by
    show (if S.gn b then _ else _) = _
    rw [if_pos (gnt b hb)]
  have voff : ∀ b, b < n → b ∉ g → (Hu.step c n o L S).v b = S.v b := fun b hb hg => by
    show (if S.gn b then _ else _) = _
    rw [gnf b hb hg]; rfl
  have lsoff : ∀ b, b < n → b ∉ g → (Hu.step c n o L S).ls b = lsN c o L S b - byN c n o L S := fun b hb hg => by
    show (if S.gn b then _ else _) = _
    rw [gnf b hb hg]; rfl
  have lson : ∀ b, b ∈ g → (Hu.step c n o L S).ls b = lsN c o L S b := fun b hb => by
    show (if S.gn b then _ else _) = _
    rw [if_pos (gnt b hb)]
  have frn : (Hu.step c n o L S).fr = frN c o L S := rfl
  rw [ed]
  refine ⟨hd, d1, hdg, b0, bf, ?_⟩
  have pr' : Pr c n o (Hu.step c n o L S).u (Hu.step c n o L S).v := by
    refine ⟨fun i hi b hb => ?_, fun b hb hob => ?_, fun b hb => ?_, fun b hb hob => ?_, fun i hi => ?_⟩
    · have h0 := h.pr.fe i hi b hb
      by_cases ho' : ∃ f, PR g f ∧ ld o L f = i
      · obtain ⟨f, hf, rfl⟩ := ho'
        rw [uon f hf]
        by_cases hg : b ∈ g
        · rw [von b hg]; omega
        · rw [voff b hb hg]
          have h1 := lo1 b hb hg f hf
          have h2 := bm b hb hg
          unfold sl at h1
          omega
      · rw [uoff i ho']
        by_cases hg : b ∈ g
        · rw [von b hg]; omega
        · rw [voff b hb hg]; exact h0
    · have h0 := h.pr.ti b hb hob
      by_cases hg : b ∈ g
      · have e : ld o L (b : Int) = (o b).toNat := by
          have : ¬ ((b : Int) < 0) := by omega
          simp only [ld, if_neg this, Int.toNat_natCast]
        have h1 := uon (b : Int) (Or.inr ⟨b, hg, rfl⟩)
        rw [e] at h1
        rw [h1, von b hg]; omega
      · have : ¬ ∃ f, PR g f ∧ ld o L f = (o b).toNat := by
          rintro ⟨f, e | ⟨k, hk, e⟩, h2⟩
          · subst e
            have : L = (o b).toNat := by simpa [ld] using h2
            rcases ho.is b hb with e | e <;> omega
          · subst e
            have hn0 : ¬ ((k : Int) < 0) := by omega
            simp only [ld, if_neg hn0, Int.toNat_natCast] at h2
            have h3 := hw k hk
            have := ho.inj k (h.gb k hk) b hb h3 (by omega)
            exact hg (this ▸ hk)
        rw [uoff _ this, voff b hb hg]; exact h0
    · have h0 := h.pr.vn b hb
      by_cases hg : b ∈ g
      · rw [von b hg]; omega
      · rw [voff b hb hg]; exact h0
    · have h0 := h.pr.vz b hb hob
      by_cases hg : b ∈ g
      · have := hw b hg; omega
      · rw [voff b hb hg]; exact h0
    · have h0 := h.pr.up i hi
      by_cases ho' : ∃ f, PR g f ∧ ld o L f = i
      · obtain ⟨f, hf, rfl⟩ := ho'
        rw [uon f hf]; omega
      · rw [uoff i ho']; exact h0
  refine ⟨pr', fun b hb => ?_, fun b hb => ?_, List.nodup_cons.2 ⟨hdg, h.nd⟩, ?_, hw, fun e => (by cases e), fun b hb hg _ f hf => ?_, fun b hb hg _ => ?_, fun b hb => ?_, fun b r hs => ?_⟩
  · show (decide (b = toN c n o L S) || S.gn b) = true ↔ _
    rw [ed]
    simp only [Bool.or_eq_true, decide_eq_true_eq, List.mem_cons, h.gl b hb]
  · rcases List.mem_cons.1 hb with rfl | hb
    · exact d1
    · exact h.gb b hb
  · show ((toN c n o L S : Nat) : Int) = _
    rw [ed]; rfl
  · have hg' : b ∉ g := fun hm => hg (List.mem_cons_of_mem _ hm)
    have hf' : PR g f := hf
    rw [lsoff b hb hg']
    have h1 := lo1 b hb hg' f hf'
    have h2 := uon f hf'
    have h3 := voff b hb hg'
    unfold sl at h1 ⊢
    omega
  · have hg' : b ∉ g := fun hm => hg (List.mem_cons_of_mem _ hm)
    obtain ⟨h1, h2⟩ := lf1 b hb hg'
    refine ⟨h1, ?_⟩
    rw [lsoff b hb hg', frn]
    have h3 := uon _ h1
    have h4 := voff b hb hg'
    unfold sl at h2 ⊢
    omega
  · have h1 := lz1 b hb
    by_cases hg : b ∈ g
    · rw [lson b hg]; exact h1
    · rw [lsoff b hb hg]
      have := bm b hb hg
      omega
  · rcases List.suffix_cons_iff.1 hs with e | hs
    · cases e
      obtain ⟨h1, h2⟩ := lf1 d d1 hdg
      refine ⟨h1, ?_⟩
      rw [frn]
      have h3 := uon _ h1
      have h4 := voff d d1 hdg
      unfold sl at h2
      omega
    · obtain ⟨h1, h2⟩ := h.ch b r hs
      have hbg : b ∈ g := hs.subset List.mem_cons_self
      have hrg : PR g (S.fr b) := (h1.more b).suf hs
      have e : (Hu.step c n o L S).fr b = S.fr b := by
        rw [frn, frN, if_neg]
        rintro ⟨e, _⟩
        rw [gnt b hbg] at e; cases e
      rw [e]
      refine ⟨h1, ?_⟩
      have h3 := uon _ hrg
      have h4 := von b hbg
      omega
end Go.Proofs.Ytcniegaogdggaaa.Hu
