/-
  In one: Ka, Kb, Kc, Qb, Qy, Da9, Db9, Kl, Km, Pm, Pn, Qp, Qs, Jl0, Qt.
-/
import Derived.Test.YtkebaklmkidfoaaZ1
import Derived.Deep.DeepCutAuto
import Derived.Deep.RegionHeld3
import Derived.Deep.MidRow
import Derived.Deep.WholeRow
import Derived.Laws.ResultCell
import Derived.Laws.CopyRow
import Derived.ChangeKeysEq
import Derived.Laws.StructEq
import Derived.Deep.RegionLaw
namespace Go.Proofs.Ytkebaklmkidfoaa.Hu

abbrev Fn := Nat → Int
def ct (c : List (List Int)) (i b : Nat) : Int := (c.getD i []).getD b 0
def upd (f : Fn) (k : Nat) (x : Int) : Fn := fun i => if i = k then x else f i
theorem upd_same (f : Fn) (k : Nat) (x : Int) : upd f k x k = x := by simp [upd]
theorem upd_else (f : Fn) {k i : Nat} (x : Int) (h : i ≠ k) : upd f k x i = f i := by simp [upd, h]
/-- Costs: n rows of n numbers in 0..100. -/
structure Good (c : List (List Int)) (n : Nat) : Prop where
  cl : ∀ i, i < n → ∀ b, b < n → 0 ≤ ct c i b ∧ ct c i b ≤ 100

/-- A way for a load that looks for a bin. -/
structure Sk where
  u : Fn
  v : Fn
  ls : Fn
  fr : Fn
  gn : Nat → Bool
  la : Int

/-- The load that is gone on from behind a bin (the new load at the beginning). -/
def ld (o : Fn) (L : Nat) (f : Int) : Nat := if f < 0 then L else (o f.toNat).toNat
/-- The load that is looked at next, below 0 where a free bin was met. -/
def nx (o : Fn) (L : Nat) (f : Int) : Int := if f < 0 then (L : Int) else o f.toNat
theorem ld_nx {o : Fn} {L : Nat} {f : Int} (h : 0 ≤ nx o L f) : nx o L f = (ld o L f : Int) := by
  unfold nx at h ⊢; unfold ld
  split
  · rfl
  · rename_i hf; rw [if_neg hf] at h; omega
def sl (c : List (List Int)) (u v : Fn) (i b : Nat) : Int := ct c i b - u i - v b
def lsN (c : List (List Int)) (o : Fn) (L : Nat) (S : Sk) : Fn := fun b => if S.gn b = false ∧ sl c S.u S.v (ld o L S.la) b < S.ls b then sl c S.u S.v (ld o L S.la) b else S.ls b
def frN (c : List (List Int)) (o : Fn) (L : Nat) (S : Sk) : Fn := fun b => if S.gn b = false ∧ sl c S.u S.v (ld o L S.la) b < S.ls b then S.la else S.fr b
/-- Of those not gone to the first with the smallest least. -/
def bestTo (ls : Fn) (gn : Nat → Bool) : Nat → Option Nat
  | 0 => none
  | k + 1 => match bestTo ls gn k with
    | none => if gn k = false then some k else none
    | some b => if gn k = false ∧ ls k < ls b then some k else some b
theorem bestTo_some {ls : Fn} {gn : Nat → Bool} : ∀ {k b}, bestTo ls gn k = some b → b < k ∧ gn b = false ∧ ∀ x, x < k → gn x = false → ls b ≤ ls x
  | 0, b, h => by simp [bestTo] at h
  | k + 1, b, h => by
    rw [bestTo] at h
    cases e : bestTo ls gn k with
    | none =>
      rw [e] at h
      simp only [] at h
      by_cases hk : gn k = false
      · rw [if_pos hk] at h; cases h
        refine ⟨by omega, hk, fun x hx hg => ?_⟩
        by_cases hxk : x = k
        · subst hxk; exact Int.le_refl _
        · exact absurd hg (by simpa using bestTo_none e x (by omega))
      · rw [if_neg hk] at h; cases h
    | some d =>
      rw [e] at h
      simp only [] at h
      obtain ⟨h1, h2, h3⟩ := bestTo_some e
      by_cases hk : gn k = false ∧ ls k < ls d
      · rw [if_pos hk] at h; cases h
        refine ⟨by omega, hk.1, fun x hx hg => ?_⟩
        by_cases hxk : x = k
        · subst hxk; exact Int.le_refl _
        · have := h3 x (by omega) hg; omega
      · rw [if_neg hk] at h; cases h
        refine ⟨by omega, h2, fun x hx hg => ?_⟩
        by_cases hxk : x = k
        · subst hxk
          have : ¬ ls x < ls b := fun h => hk ⟨hg, h⟩
          omega
        · exact h3 x (by omega) hg
where
  bestTo_none {ls : Fn} {gn : Nat → Bool} : ∀ {k}, bestTo ls gn k = none → ∀ x, x < k → gn x = true
  | 0, _, x, hx => by omega
  | k + 1, h, x, hx => by
    rw [bestTo] at h
    cases e : bestTo ls gn k with
    | none =>
      rw [e] at h
      simp only [] at h
      by_cases hk : gn k = false
      · rw [if_pos hk] at h; cases h
      · by_cases hxk : x = k
        · subst hxk; simpa using hk
        · exact bestTo_none e x (by omega)
    | some d =>
      rw [e] at h
      simp only [] at h
      split at h <;> cases h
theorem bestTo_is {ls : Fn} {gn : Nat → Bool} {n x : Nat} (hx : x < n) (hg : gn x = false) : ∃ b, bestTo ls gn n = some b := by
  cases e : bestTo ls gn n with
  | none => have := bestTo_some.bestTo_none e x hx; rw [hg] at this; cases this
  | some b => exact ⟨b, rfl⟩
/-- Whether a load is on the way. -/
def onB (n : Nat) (o : Fn) (L : Nat) (gn : Nat → Bool) (i : Nat) : Bool := decide (i = L) || (List.range n).any (fun b => gn b && decide (o b = (i : Int)))
def toN (c : List (List Int)) (n : Nat) (o : Fn) (L : Nat) (S : Sk) : Nat := (bestTo (lsN c o L S) S.gn n).getD 0
def byN (c : List (List Int)) (n : Nat) (o : Fn) (L : Nat) (S : Sk) : Int := lsN c o L S (toN c n o L S)
def step (c : List (List Int)) (n : Nat) (o : Fn) (L : Nat) (S : Sk) : Sk where
  u := fun i => if onB n o L S.gn i then S.u i + byN c n o L S else S.u i
  v := fun b => if S.gn b then S.v b - byN c n o L S else S.v b
  ls := fun b => if S.gn b then lsN c o L S b else lsN c o L S b - byN c n o L S
  fr := frN c o L S
  gn := fun b => decide (b = toN c n o L S) || S.gn b
  la := (toN c n o L S : Int)
def far : Int := 1099511627776
def start (u v : Fn) : Sk := ⟨u, v, fun _ => far, fun _ => -1, fun _ => false, -1⟩

/-- Owners of bins: each load below L has just one bin. -/
structure Ow (n : Nat) (o : Fn) (L : Nat) : Prop where
  is : ∀ b, b < n → o b = -1 ∨ (0 ≤ o b ∧ o b < (L : Int))
  inj : ∀ b, b < n → ∀ d, d < n → 0 ≤ o b → o b = o d → b = d
  sur : ∀ i, i < L → ∃ b, b < n ∧ o b = (i : Int)
theorem Ow.free {n : Nat} {o : Fn} {L : Nat} (h : Ow n o L) (hL : L < n) : ∃ b, b < n ∧ o b < 0 := by
  apply Classical.byContradiction
  intro hn
  have hall : ∀ b, b < n → 0 ≤ o b := fun b hb => by
    rcases h.is b hb with e | e
    · exact absurd ⟨b, hb, by omega⟩ hn
    · exact e.1
  have hd : ((List.range n).map fun b => (o b).toNat).Nodup := by
    rw [List.nodup_iff_pairwise_ne, List.pairwise_map]
    refine List.Pairwise.imp_of_mem ?_ (List.nodup_iff_pairwise_ne.1 List.nodup_range)
    intro a b ha hb hab e
    have ha' := List.mem_range.1 ha
    have hb' := List.mem_range.1 hb
    have h1 := hall a ha'
    have h2 := hall b hb'
    exact hab (h.inj a ha' b hb' h1 (by omega))
  have := hd.length_le_of_subset (l₂ := List.range L) (fun x hx => by
    obtain ⟨b, hb, rfl⟩ := List.mem_map.1 hx
    have hb' := List.mem_range.1 hb
    rcases h.is b hb' with e | e
    · have := hall b hb'; omega
    · exact List.mem_range.2 (by omega))
  simp at this
  omega
/-- What prices hold, whatever is on the way. -/
structure Pr (c : List (List Int)) (n : Nat) (o u v : Fn) : Prop where
  fe : ∀ i, i < n → ∀ b, b < n → u i + v b ≤ ct c i b
  ti : ∀ b, b < n → 0 ≤ o b → u (o b).toNat + v b = ct c (o b).toNat b
  vn : ∀ b, b < n → v b ≤ 0
  vz : ∀ b, b < n → o b < 0 → v b = 0
  up : ∀ i, i < n → 0 ≤ u i
theorem Pr.ub {c : List (List Int)} {n : Nat} {o u v : Fn} (h : Pr c n o u v) (hc : Good c n) {z : Nat} (hz : z < n) (hf : o z < 0) : ∀ i, i < n → u i ≤ 100 := by
  intro i hi
  have h1 := h.fe i hi z hz
  have h2 := h.vz z hz hf
  have h3 := (hc.cl i hi z hz).2
  omega
/-- What a bin can be seen from. -/
def PR (g : List Nat) (f : Int) : Prop := f = -1 ∨ ∃ b, b ∈ g ∧ f = (b : Int)
theorem PR.more {g : List Nat} {f : Int} (b : Nat) (h : PR g f) : PR (b :: g) f := by
  rcases h with e | ⟨d, hd, e⟩
  · exact Or.inl e
  · exact Or.inr ⟨d, List.mem_cons_of_mem _ hd, e⟩
theorem PR.suf {g r : List Nat} {f : Int} (h : PR r f) (hs : r <:+ g) : PR g f := by
  rcases h with e | ⟨d, hd, e⟩
  · exact Or.inl e
  · exact Or.inr ⟨d, hs.subset hd, e⟩
def lastOf : List Nat → Int
  | [] => -1
  | b :: _ => (b : Int)
theorem PR.split {g : List Nat} {f : Int} (h : PR g f) : f = lastOf g ∨ (g ≠ [] ∧ PR g.tail f) := by
  cases g with
  | nil =>
    rcases h with e | ⟨d, hd, e⟩
    · exact Or.inl e
    · cases hd
  | cons b r =>
    rcases h with e | ⟨d, hd, e⟩
    · exact Or.inr ⟨by simp, Or.inl e⟩
    · rcases List.mem_cons.1 hd with rfl | hd
      · exact Or.inl e
      · exact Or.inr ⟨by simp, Or.inr ⟨d, hd, e⟩⟩
theorem PR.last (g : List Nat) : PR g (lastOf g) := by
  cases g with
  | nil => exact Or.inl rfl
  | cons b r => exact Or.inr ⟨b, List.mem_cons_self, rfl⟩
theorem PR.of_tail {g : List Nat} {f : Int} (h : PR g.tail f) : PR g f := h.suf (List.tail_suffix g)

/-- What holds on a way; g: the bins gone to, the last one first. -/
structure In (c : List (List Int)) (n : Nat) (o : Fn) (L : Nat) (S : Sk) (g : List Nat) : Prop where
  pr : Pr c n o S.u S.v
  gl : ∀ b, b < n → (S.gn b = true ↔ b ∈ g)
  gb : ∀ b, b ∈ g → b < n
  nd : g.Nodup
  la : S.la = lastOf g
  own : ∀ b, b ∈ g.tail → 0 ≤ o b
  l0 : g = [] → ∀ b, b < n → S.ls b = far
  lo : ∀ b, b < n → b ∉ g → g ≠ [] → ∀ f, PR g.tail f → S.ls b ≤ sl c S.u S.v (ld o L f) b
  lf : ∀ b, b < n → b ∉ g → g ≠ [] → PR g.tail (S.fr b) ∧ S.ls b = sl c S.u S.v (ld o L (S.fr b)) b
  lz : ∀ b, b < n → 0 ≤ S.ls b ∧ S.ls b ≤ far
  ch : ∀ b r, (b :: r) <:+ g → PR r (S.fr b) ∧ S.u (ld o L (S.fr b)) + S.v b = ct c (ld o L (S.fr b)) b

theorem In.start {c : List (List Int)} {n : Nat} {o : Fn} {L : Nat} {u v : Fn} (h : Pr c n o u v) : In c n o L (start u v) [] where
  pr := h
  gl := fun b _ => by simp [Hu.start]
  gb := fun b hb => by cases hb
  nd := List.nodup_nil
  la := rfl
  own := fun b hb => by cases hb
  l0 := fun _ b _ => rfl
  lo := fun b _ _ h => absurd rfl h
  lf := fun b _ _ h => absurd rfl h
  lz := fun b _ => by simp [Hu.start, far]
  ch := fun b r h => by simp at h

theorem ld_lt {n : Nat} {o : Fn} {L : Nat} (ho : Ow n o L) (hL : L < n) {g : List Nat} (hg : ∀ b, b ∈ g → b < n) (hw : ∀ b, b ∈ g → 0 ≤ o b) {f : Int} (h : PR g f) : ld o L f < n := by
  rcases h with e | ⟨d, hd, e⟩
  · subst e; simpa [ld] using hL
  · subst e
    have h1 := hw d hd
    rcases ho.is d (hg d hd) with e | e
    · omega
    · have : ¬ ((d : Int) < 0) := by omega
      simp only [ld, if_neg this, Int.toNat_natCast]; omega
theorem on_iff {n : Nat} {o : Fn} {L : Nat} {g : List Nat} {gn : Nat → Bool} (hl : ∀ b, b < n → (gn b = true ↔ b ∈ g)) (hg : ∀ b, b ∈ g → b < n) (hw : ∀ b, b ∈ g → 0 ≤ o b) (i : Nat) : onB n o L gn i = true ↔ ∃ f, PR g f ∧ ld o L f = i := by
  simp only [onB, Bool.or_eq_true, decide_eq_true_eq, List.any_eq_true, List.mem_range, Bool.and_eq_true]
  constructor
  · rintro (rfl | ⟨b, hb, h1, h2⟩)
    · exact ⟨-1, Or.inl rfl, by simp [ld]⟩
    · refine ⟨(b : Int), Or.inr ⟨b, (hl b hb).1 h1, rfl⟩, ?_⟩
      have : ¬ ((b : Int) < 0) := by omega
      simp only [ld, if_neg this, Int.toNat_natCast]; omega
  · rintro ⟨f, e | ⟨d, hd, e⟩, h⟩
    · subst e; left; simpa [ld] using h.symm
    · subst e
      right
      refine ⟨d, hg d hd, (hl d (hg d hd)).2 hd, ?_⟩
      have : ¬ ((d : Int) < 0) := by omega
      simp only [ld, if_neg this, Int.toNat_natCast] at h
      have := hw d hd
      omega

/-- One bin more. -/
theorem In.step {c : List (List Int)} {n : Nat} {o : Fn} {L : Nat} {S : Sk} {g : List Nat} (hc : Good c n) (ho : Ow n o L) (hL : L < n) (h : In c n o L S g) (hx : 0 ≤ nx o L S.la) :
    bestTo (lsN c o L S) S.gn n = some (toN c n o L S) ∧ toN c n o L S < n ∧ toN c n o L S ∉ g ∧ 0 ≤ byN c n o L S ∧ byN c n o L S ≤ far ∧ In c n o L (step c n o L S) (toN c n o L S :: g) := by
  have hw : ∀ b, b ∈ g → 0 ≤ o b := by
    intro b hb
    cases g with
    | nil => cases hb
    | cons d r =>
      rcases List.mem_cons.1 hb with rfl | hb
      · have e := h.la
        rw [e] at hx
        have : ¬ ((b : Int) < 0) := by omega
        simpa [nx, lastOf, this] using hx
      · exact h.own b hb
  obtain ⟨z, hz, hzf⟩ := ho.free hL
  have hzg : z ∉ g := fun hm => by have := hw z hm; omega
  have hub := h.pr.ub hc hz hzf
  have hLa : PR g S.la := by rw [h.la]; exact PR.last g
  have ldlt : ∀ {f : Int}, PR g f → ld o L f < n := fun hf => ld_lt ho hL h.gb hw hf
  have gnf : ∀ b, b < n → b ∉ g → S.gn b = false := fun b hb hg => by
    cases e : S.gn b
    · rfl
    · exact absurd ((h.gl b hb).1 e) hg
  have ngn : ∀ b, b < n → S.gn b = false → b ∉ g := fun b hb e hm => by rw [(h.gl b hb).2 hm] at e; cases e
  have gnt : ∀ b, b ∈ g → S.gn b = true := fun b hb => (h.gl b (h.gb b hb)).2 hb
  -- what was looked at
  have slb : ∀ b, b < n → ∀ i, i < n → 0 ≤ sl c S.u S.v i b ∧ (b ∉ g → sl c S.u S.v i b ≤ 300) := fun b hb i hi => by
    have h1 := h.pr.fe i hi b hb
    refine ⟨by unfold sl; omega, fun hg => ?_⟩
    have h2 := (hc.cl i hi b hb).2
    have h3 := h.pr.up i hi
    have h4 : -100 ≤ S.v b := by
      rcases ho.is b hb with e | e
      · have := h.pr.vz b hb (by omega); omega
      · have h5 := h.pr.ti b hb e.1
        have h6 := hub (o b).toNat (by omega)
        have h7 := (hc.cl (o b).toNat (by omega) b hb).1
        omega
    unfold sl; omega
  have lf1 : ∀ b, b < n → b ∉ g → PR g (frN c o L S b) ∧ lsN c o L S b = sl c S.u S.v (ld o L (frN c o L S b)) b := by
    intro b hb hg
    by_cases e : S.gn b = false ∧ sl c S.u S.v (ld o L S.la) b < S.ls b
    · rw [lsN, frN, if_pos e, if_pos e]; exact ⟨hLa, rfl⟩
    · rw [lsN, frN, if_neg e, if_neg e]
      by_cases hn : g = []
      · exfalso
        have h1 := h.l0 hn b hb
        have h2 := (slb b hb _ (ldlt hLa)).2 hg
        refine e ⟨gnf b hb hg, ?_⟩
        rw [h1]; unfold far; omega
      · obtain ⟨h1, h2⟩ := h.lf b hb hg hn
        exact ⟨h1.of_tail, h2⟩
  have lo1 : ∀ b, b < n → b ∉ g → ∀ f, PR g f → lsN c o L S b ≤ sl c S.u S.v (ld o L f) b := by
    intro b hb hg f hf
    have hgn := gnf b hb hg
    rcases hf.split with e | ⟨hn, ht⟩
    · rw [← h.la] at e; subst e
      unfold lsN
      split
      · exact Int.le_refl _
      · rename_i e
        have : ¬ sl c S.u S.v (ld o L S.la) b < S.ls b := fun h => e ⟨hgn, h⟩
        omega
    · have h1 := h.lo b hb hg hn f ht
      unfold lsN
      split
      · rename_i e; omega
      · exact h1
  have lz1 : ∀ b, b < n → 0 ≤ lsN c o L S b ∧ lsN c o L S b ≤ far := by
    intro b hb
    have h0 := h.lz b hb
    unfold lsN
    split
    · rename_i e
      have := slb b hb _ (ldlt hLa)
      omega
    · exact h0
  obtain ⟨d, hd⟩ := bestTo_is (ls := lsN c o L S) hz (gnf z hz hzg)
  have ed : toN c n o L S = d := by simp [toN, hd]
  obtain ⟨d1, d2, d3⟩ := bestTo_some hd
  have hdg : d ∉ g := ngn d d1 d2
  have eb : byN c n o L S = lsN c o L S d := by rw [byN, ed]
  have b0 : 0 ≤ byN c n o L S := by rw [eb]; exact (lz1 d d1).1
  have bf : byN c n o L S ≤ far := by rw [eb]; exact (lz1 d d1).2
  have bm : ∀ b, b < n → b ∉ g → byN c n o L S ≤ lsN c o L S b := fun b hb hg => by rw [eb]; exact d3 b hb (gnf b hb hg)
  have uon : ∀ f, PR g f → (Hu.step c n o L S).u (ld o L f) = S.u (ld o L f) + byN c n o L S := fun f hf => by
    show (if onB n o L S.gn (ld o L f) then _ else _) = _
    rw [if_pos ((on_iff h.gl h.gb hw _).2 ⟨f, hf, rfl⟩)]
  have uoff : ∀ i, (¬ ∃ f, PR g f ∧ ld o L f = i) → (Hu.step c n o L S).u i = S.u i := fun i hi => by
    show (if onB n o L S.gn i then _ else _) = _
    rw [if_neg (fun h' => hi ((on_iff h.gl h.gb hw _).1 h'))]
  have von : ∀ b, b ∈ g → (Hu.step c n o L S).v b = S.v b - byN c n o L S := fun b hb => by
    show (if S.gn b then _ else _) = _
    rw [if_pos (gnt b hb)]
  have voff : ∀ b, b < n → b ∉ g → (Hu.step c n o L S).v b = S.v b := fun b hb hg => by
    show (if S.gn b then _ else _) = _
    rw [gnf b hb hg]; rfl
  have lsoff : ∀ b, b < n → b ∉ g → (Hu.step c n o L S).ls b = lsN c o L S b - byN c n o L S := fun b hb hg => by
    show (if S.gn b then _ else _) = _
    rw [gnf b hb hg]; rfl
  have lson : ∀ b, b ∈ g → (Hu.step c n o L S).ls b = lsN c o L S b := fun b hb => by
    show (if S.gn b then _ else _) = _
    rw [if_pos (gnt b hb)]
  have frn : (Hu.step c n o L S).fr = frN c o L S := rfl
  rw [ed]
  refine ⟨hd, d1, hdg, b0, bf, ?_⟩
  have pr' : Pr c n o (Hu.step c n o L S).u (Hu.step c n o L S).v := by
    refine ⟨fun i hi b hb => ?_, fun b hb hob => ?_, fun b hb => ?_, fun b hb hob => ?_, fun i hi => ?_⟩
    · have h0 := h.pr.fe i hi b hb
      by_cases ho' : ∃ f, PR g f ∧ ld o L f = i
      · obtain ⟨f, hf, rfl⟩ := ho'
        rw [uon f hf]
        by_cases hg : b ∈ g
        · rw [von b hg]; omega
        · rw [voff b hb hg]
          have h1 := lo1 b hb hg f hf
          have h2 := bm b hb hg
          unfold sl at h1
          omega
      · rw [uoff i ho']
        by_cases hg : b ∈ g
        · rw [von b hg]; omega
        · rw [voff b hb hg]; exact h0
    · have h0 := h.pr.ti b hb hob
      by_cases hg : b ∈ g
      · have e : ld o L (b : Int) = (o b).toNat := by
          have : ¬ ((b : Int) < 0) := by omega
          simp only [ld, if_neg this, Int.toNat_natCast]
        have h1 := uon (b : Int) (Or.inr ⟨b, hg, rfl⟩)
        rw [e] at h1
        rw [h1, von b hg]; omega
      · have : ¬ ∃ f, PR g f ∧ ld o L f = (o b).toNat := by
          rintro ⟨f, e | ⟨k, hk, e⟩, h2⟩
          · subst e
            have : L = (o b).toNat := by simpa [ld] using h2
            rcases ho.is b hb with e | e <;> omega
          · subst e
            have hn0 : ¬ ((k : Int) < 0) := by omega
            simp only [ld, if_neg hn0, Int.toNat_natCast] at h2
            have h3 := hw k hk
            have := ho.inj k (h.gb k hk) b hb h3 (by omega)
            exact hg (this ▸ hk)
        rw [uoff _ this, voff b hb hg]; exact h0
    · have h0 := h.pr.vn b hb
      by_cases hg : b ∈ g
      · rw [von b hg]; omega
      · rw [voff b hb hg]; exact h0
    · have h0 := h.pr.vz b hb hob
      by_cases hg : b ∈ g
      · have := hw b hg; omega
      · rw [voff b hb hg]; exact h0
    · have h0 := h.pr.up i hi
      by_cases ho' : ∃ f, PR g f ∧ ld o L f = i
      · obtain ⟨f, hf, rfl⟩ := ho'
        rw [uon f hf]; omega
      · rw [uoff i ho']; exact h0
  refine ⟨pr', fun b hb => ?_, fun b hb => ?_, List.nodup_cons.2 ⟨hdg, h.nd⟩, ?_, hw, fun e => (by cases e), fun b hb hg _ f hf => ?_, fun b hb hg _ => ?_, fun b hb => ?_, fun b r hs => ?_⟩
  · show (decide (b = toN c n o L S) || S.gn b) = true ↔ _
    rw [ed]
    simp only [Bool.or_eq_true, decide_eq_true_eq, List.mem_cons, h.gl b hb]
  · rcases List.mem_cons.1 hb with rfl | hb
    · exact d1
    · exact h.gb b hb
  · show ((toN c n o L S : Nat) : Int) = _
    rw [ed]; rfl
  · have hg' : b ∉ g := fun hm => hg (List.mem_cons_of_mem _ hm)
    have hf' : PR g f := hf
    rw [lsoff b hb hg']
    have h1 := lo1 b hb hg' f hf'
    have h2 := uon f hf'
    have h3 := voff b hb hg'
    unfold sl at h1 ⊢
    omega
  · have hg' : b ∉ g := fun hm => hg (List.mem_cons_of_mem _ hm)
    obtain ⟨h1, h2⟩ := lf1 b hb hg'
    refine ⟨h1, ?_⟩
    rw [lsoff b hb hg', frn]
    have h3 := uon _ h1
    have h4 := voff b hb hg'
    unfold sl at h2 ⊢
    omega
  · have h1 := lz1 b hb
    by_cases hg : b ∈ g
    · rw [lson b hg]; exact h1
    · rw [lsoff b hb hg]
      have := bm b hb hg
      omega
  · rcases List.suffix_cons_iff.1 hs with e | hs
    · cases e
      obtain ⟨h1, h2⟩ := lf1 d d1 hdg
      refine ⟨h1, ?_⟩
      rw [frn]
      have h3 := uon _ h1
      have h4 := voff d d1 hdg
      unfold sl at h2
      omega
    · obtain ⟨h1, h2⟩ := h.ch b r hs
      have hbg : b ∈ g := hs.subset List.mem_cons_self
      have hrg : PR g (S.fr b) := (h1.more b).suf hs
      have e : (Hu.step c n o L S).fr b = S.fr b := by
        rw [frn, frN, if_neg]
        rintro ⟨e, _⟩
        rw [gnt b hbg] at e; cases e
      rw [e]
      refine ⟨h1, ?_⟩
      have h3 := uon _ hrg
      have h4 := von b hbg
      omega
end Go.Proofs.Ytkebaklmkidfoaa.Hu
namespace Go.Proofs.Ytkebaklmkidfoaa.Hu

def run (c : List (List Int)) (n : Nat) (o : Fn) (L : Nat) : Nat → Sk → Sk
  | 0, S => S
  | k + 1, S => if nx o L S.la < 0 then S else run c n o L k (step c n o L S)
/-- All of 0 up to n - 1 are in a list of n of them, no two alike. -/
theorem all_in {l : List Nat} {n : Nat} (hl : n ≤ l.length) (hd : l.Nodup) (hb : ∀ x ∈ l, x < n) : ∀ k, k < n → k ∈ l := by
  intro k hk
  apply Classical.byContradiction
  intro hn
  have : (k :: l).Nodup := List.nodup_cons.2 ⟨hn, hd⟩
  have := this.length_le_of_subset (l₂ := List.range n) (fun x hx => by
    rcases List.mem_cons.1 hx with rfl | hx
    · simpa using hk
    · simpa using hb x hx)
  simp at this
  omega
theorem In.run {c : List (List Int)} {n : Nat} {o : Fn} {L : Nat} (hc : Good c n) (ho : Ow n o L) (hL : L < n) : ∀ (k : Nat) {S : Sk} {g : List Nat}, In c n o L S g → n ≤ g.length + k → ∃ g', In c n o L (run c n o L k S) g' ∧ nx o L (run c n o L k S).la < 0
  | 0, S, g, h, hk => by
    refine ⟨g, h, ?_⟩
    obtain ⟨z, hz, hzf⟩ := ho.free hL
    have hm := all_in (n := n) (by omega) h.nd h.gb z hz
    cases g with
    | nil => cases hm
    | cons d r =>
      show nx o L S.la < 0
      rw [h.la]
      rcases List.mem_cons.1 hm with rfl | hm
      · have : ¬ ((z : Int) < 0) := by omega
        simpa [nx, lastOf, this] using hzf
      · have := h.own z hm; omega
  | k + 1, S, g, h, hk => by
    by_cases hx : nx o L S.la < 0
    · refine ⟨g, ?_⟩
      rw [Hu.run, if_pos hx]
      exact ⟨h, hx⟩
    · rw [Hu.run, if_neg hx]
      obtain ⟨_, _, _, _, _, h'⟩ := h.step hc ho hL (by omega)
      exact In.run hc ho hL k h' (by simp; omega)

/-- The bins on the way back each get the load from which they were seen. -/
def back (fr : Fn) (L : Nat) : Nat → Fn → Int → Fn
  | 0, o, _ => o
  | k + 1, o, b => if b < 0 then o else back fr L k (upd o b.toNat (if fr b.toNat < 0 then (L : Int) else o (fr b.toNat).toNat)) (fr b.toNat)
/-- Owners with a bin h left out. -/
structure Ho (c : List (List Int)) (n : Nat) (L : Nat) (u v o : Fn) (h : Nat) : Prop where
  is : ∀ b, b < n → b ≠ h → o b = -1 ∨ (0 ≤ o b ∧ o b < (L : Int))
  inj : ∀ b, b < n → ∀ d, d < n → b ≠ h → d ≠ h → 0 ≤ o b → o b = o d → b = d
  sur : ∀ i, i < L → ∃ b, b < n ∧ b ≠ h ∧ o b = (i : Int)
  ti : ∀ b, b < n → b ≠ h → 0 ≤ o b → u (o b).toNat + v b = ct c (o b).toNat b
  vz : ∀ b, b < n → b ≠ h → o b < 0 → v b = 0
theorem back_end {c : List (List Int)} {n : Nat} {o0 : Fn} {L : Nat} {u v fr : Fn} (ho : Ow n o0 L) (hL : L < n) : ∀ (k : Nat) {o : Fn} {h : Nat} {r : List Nat},
    (∀ b, b ∈ h :: r → b < n) → (h :: r).Nodup → (∀ b, b ∈ r → o b = o0 b ∧ 0 ≤ o0 b) → Ho c n L u v o h →
    (∀ b s, (b :: s) <:+ (h :: r) → PR s (fr b) ∧ u (ld o0 L (fr b)) + v b = ct c (ld o0 L (fr b)) b) → r.length + 2 ≤ k →
    Ow n (back fr L k o (h : Int)) (L + 1) ∧ (∀ b, b < n → 0 ≤ back fr L k o (h : Int) b → u (back fr L k o (h : Int) b).toNat + v b = ct c (back fr L k o (h : Int) b).toNat b) ∧ (∀ b, b < n → back fr L k o (h : Int) b < 0 → v b = 0)
  | 0, _, _, _, _, _, _, _, _, hk => by omega
  | 1, _, _, _, _, _, _, _, _, hk => by omega
  | k + 2, o, h, r, hb, hnd, hr, hh, hch, hk => by
    have hn0 : ¬ ((h : Int) < 0) := by omega
    have hhn := hb h List.mem_cons_self
    obtain ⟨hp, ht⟩ := hch h r (List.suffix_refl _)
    rw [back, if_neg hn0]
    simp only [Int.toNat_natCast]
    rcases hp with e | ⟨f, hf, e⟩
    · rw [e, if_pos (by omega), back, if_pos (by omega)]
      have hld : ld o0 L (fr h) = L := by rw [e]; simp [ld]
      rw [hld] at ht
      refine ⟨⟨fun b hb' => ?_, fun b hb' d hd hob heq => ?_, fun i hi => ?_⟩, fun b hb' hob => ?_, fun b hb' hob => ?_⟩
      · by_cases hbh : b = h
        · subst hbh; rw [upd_same]; omega
        · rw [upd_else _ _ hbh]; rcases hh.is b hb' hbh with e | e <;> omega
      · by_cases hbh : b = h
        · by_cases hdh : d = h
          · omega
          · subst hbh
            rw [upd_same, upd_else _ _ hdh] at heq
            rcases hh.is d hd hdh with e | e <;> omega
        · by_cases hdh : d = h
          · subst hdh
            rw [upd_same, upd_else _ _ hbh] at heq
            rcases hh.is b hb' hbh with e | e <;> omega
          · rw [upd_else _ _ hbh, upd_else _ _ hdh] at heq
            rw [upd_else _ _ hbh] at hob
            exact hh.inj b hb' d hd hbh hdh hob heq
      · by_cases hiL : i = L
        · subst hiL; exact ⟨h, hhn, upd_same _ _ _⟩
        · obtain ⟨b, hb', hbh, e⟩ := hh.sur i (by omega)
          exact ⟨b, hb', by rw [upd_else _ _ hbh]; exact e⟩
      · by_cases hbh : b = h
        · subst hbh; rw [upd_same]; simpa using ht
        · rw [upd_else _ _ hbh] at hob ⊢; exact hh.ti b hb' hbh hob
      · by_cases hbh : b = h
        · subst hbh; rw [upd_same] at hob; omega
        · rw [upd_else _ _ hbh] at hob; exact hh.vz b hb' hbh hob
    · have hf0 : ¬ ((f : Int) < 0) := by omega
      rw [e, if_neg hf0, Int.toNat_natCast]
      have hfn := hb f (List.mem_cons_of_mem _ hf)
      have hfh : f ≠ h := fun e => by subst e; exact (List.nodup_cons.1 hnd).1 hf
      obtain ⟨s, t, hst⟩ := List.append_of_mem hf
      have hsuf : (f :: t) <:+ r := ⟨s, hst.symm⟩
      have hld : ld o0 L (fr h) = (o0 f).toNat := by rw [e]; simp only [ld, if_neg hf0, Int.toNat_natCast]
      rw [hld] at ht
      obtain ⟨hof, hof0⟩ := hr f hf
      have htr : ∀ b, b ∈ t → b ∈ r := fun b hb' => hsuf.subset (List.mem_cons_of_mem _ hb')
      have hlen : t.length < r.length := by rw [hst]; simp; omega
      refine back_end ho hL (k + 1) (r := t) ?_ ?_ ?_ ?_ ?_ (by omega)
      · intro b hb'
        exact hb b (List.mem_cons_of_mem _ (hsuf.subset hb'))
      · exact ((List.nodup_cons.1 hnd).2).sublist hsuf.sublist
      · intro b hb'
        have hbr := htr b hb'
        have : b ≠ h := fun e => by subst e; exact (List.nodup_cons.1 hnd).1 hbr
        rw [upd_else _ _ this]
        exact hr b hbr
      · refine ⟨fun b hb' hbf => ?_, fun b hb' d hd hbf hdf hob heq => ?_, fun i hi => ?_, fun b hb' hbf hob => ?_, fun b hb' hbf hob => ?_⟩
        · by_cases hbh : b = h
          · subst hbh; rw [upd_same]; exact hh.is f hfn hfh
          · rw [upd_else _ _ hbh]; exact hh.is b hb' hbh
        · by_cases hbh : b = h
          · by_cases hdh : d = h
            · omega
            · subst hbh
              rw [upd_same, upd_else _ _ hdh] at heq
              rw [upd_same] at hob
              exact absurd (hh.inj f hfn d hd hfh hdh hob heq).symm hdf
          · by_cases hdh : d = h
            · subst hdh
              rw [upd_same, upd_else _ _ hbh] at heq
              rw [upd_else _ _ hbh] at hob
              exact absurd (hh.inj b hb' f hfn hbh hfh hob heq) hbf
            · rw [upd_else _ _ hbh, upd_else _ _ hdh] at heq
              rw [upd_else _ _ hbh] at hob
              exact hh.inj b hb' d hd hbh hdh hob heq
        · obtain ⟨b, hb', hbh, e2⟩ := hh.sur i hi
          by_cases hbf : b = f
          · subst hbf; exact ⟨h, hhn, fun e => hfh e.symm, by rw [upd_same]; exact e2⟩
          · exact ⟨b, hb', hbf, by rw [upd_else _ _ hbh]; exact e2⟩
        · by_cases hbh : b = h
          · subst hbh; rw [upd_same, hof]; exact ht
          · rw [upd_else _ _ hbh] at hob ⊢; exact hh.ti b hb' hbh hob
        · by_cases hbh : b = h
          · subst hbh; rw [upd_same, hof] at hob; omega
          · rw [upd_else _ _ hbh] at hob; exact hh.vz b hb' hbh hob
      · intro b q hq
        exact hch b q (List.IsSuffix.trans (List.IsSuffix.trans hq hsuf) (List.suffix_cons _ _))

/-- Owners, prices of loads, prices of bins. -/
structure Tri where
  o : Fn
  u : Fn
  v : Fn
def seek (c : List (List Int)) (n L : Nat) (T : Tri) : Tri where
  o := back (run c n T.o L n (start T.u T.v)).fr L (n + 1) T.o (run c n T.o L n (start T.u T.v)).la
  u := (run c n T.o L n (start T.u T.v)).u
  v := (run c n T.o L n (start T.u T.v)).v
def fitTo (c : List (List Int)) (n : Nat) : Nat → Tri
  | 0 => ⟨fun _ => -1, fun _ => 0, fun _ => 0⟩
  | k + 1 => seek c n k (fitTo c n k)
structure Ou (c : List (List Int)) (n L : Nat) (T : Tri) : Prop where
  ow : Ow n T.o L
  pr : Pr c n T.o T.u T.v
  ub : ∀ i, i < n → T.u i ≤ 100
theorem Ou.vl {c : List (List Int)} {n L : Nat} {T : Tri} (hc : Good c n) (hL : L ≤ n) (h : Ou c n L T) : ∀ b, b < n → -100 ≤ T.v b ∧ T.v b ≤ 0 := by
  intro b hb
  refine ⟨?_, h.pr.vn b hb⟩
  rcases h.ow.is b hb with e | e
  · have := h.pr.vz b hb (by omega); omega
  · have h1 := h.pr.ti b hb e.1
    have h2 := h.ub (T.o b).toNat (by omega)
    have h3 := (hc.cl (T.o b).toNat (by omega) b hb).1
    omega
theorem Ou.seek {c : List (List Int)} {n L : Nat} {T : Tri} (hc : Good c n) (hL : L < n) (h : Ou c n L T) : Ou c n (L + 1) (seek c n L T) := by
  obtain ⟨g, hg, hx⟩ := (In.start (L := L) h.pr).run hc h.ow hL n (by simp)
  generalize hS : run c n T.o L n (start T.u T.v) = S at *
  obtain ⟨z, hz, hzf⟩ := h.ow.free hL
  have hub := hg.pr.ub hc hz hzf
  cases g with
  | nil =>
    rw [hg.la] at hx
    simp [nx, lastOf] at hx
    omega
  | cons d r =>
    have hla : S.la = (d : Int) := hg.la
    have hdn := hg.gb d List.mem_cons_self
    have hdf : T.o d < 0 := by
      have : ¬ ((d : Int) < 0) := by omega
      rw [hla] at hx
      simpa [nx, this] using hx
    have hlen : (d :: r).length ≤ n := by
      have := hg.nd.length_le_of_subset (l₂ := List.range n) (fun x hx => List.mem_range.2 (hg.gb x hx))
      simpa using this
    have hh : Ho c n L S.u S.v T.o d := by
      refine ⟨fun b hb _ => h.ow.is b hb, fun b hb e he _ _ hob heq => h.ow.inj b hb e he hob heq, fun i hi => ?_, fun b hb _ hob => hg.pr.ti b hb hob, fun b hb _ hob => hg.pr.vz b hb hob⟩
      obtain ⟨b, hb, e⟩ := h.ow.sur i hi
      exact ⟨b, hb, fun e' => by subst e'; omega, e⟩
    obtain ⟨h1, h2, h3⟩ := back_end (k := n + 1) (u := S.u) (v := S.v) (fr := S.fr) (c := c) h.ow hL hg.gb hg.nd (fun b hb => ⟨rfl, hg.own b hb⟩) hh hg.ch (by simp at hlen; omega)
    have eo : (Hu.seek c n L T).o = back S.fr L (n + 1) T.o (d : Int) := by rw [Hu.seek, hS, hla]
    have eu : (Hu.seek c n L T).u = S.u := by rw [Hu.seek, hS]
    have ev : (Hu.seek c n L T).v = S.v := by rw [Hu.seek, hS]
    refine ⟨?_, ?_, ?_⟩
    · rw [eo]; exact h1
    · rw [eo, eu, ev]
      exact ⟨hg.pr.fe, h2, hg.pr.vn, h3, hg.pr.up⟩
    · rw [eu]; exact hub
theorem fit_ou {c : List (List Int)} {n : Nat} (hc : Good c n) : ∀ k, k ≤ n → Ou c n k (fitTo c n k)
  | 0, _ => by
    refine ⟨⟨fun b _ => Or.inl rfl, fun b _ d _ h _ => ?_, fun i hi => absurd hi (Nat.not_lt_zero _)⟩, ⟨fun i hi b hb => ?_, fun b _ h => ?_, fun b _ => Int.le_refl _, fun b _ _ => rfl, fun i _ => Int.le_refl _⟩, fun i _ => ?_⟩
    · simp [fitTo] at h
    · have := (hc.cl i hi b hb).1
      simpa [fitTo] using this
    · simp [fitTo] at h
    · simp [fitTo]
  | k + 1, hk => (fit_ou hc k (by omega)).seek hc (by omega)
/-- The bin of a load. -/
def binOf (o : Fn) (n : Nat) (i : Nat) : Nat := ((List.range n).find? fun b => decide (o b = (i : Int))).getD 0
theorem binOf_is {n : Nat} {o : Fn} {L : Nat} (h : Ow n o L) {i : Nat} (hi : i < L) : binOf o n i < n ∧ o (binOf o n i) = (i : Int) := by
  obtain ⟨b, hb, e⟩ := h.sur i hi
  unfold binOf
  cases hf : (List.range n).find? fun b => decide (o b = (i : Int)) with
  | none =>
    have := List.find?_eq_none.1 hf b (List.mem_range.2 hb)
    simp [e] at this
  | some d =>
    have h1 := List.find?_some hf
    have h2 := List.mem_of_find?_eq_some hf
    exact ⟨List.mem_range.1 h2, by simpa using h1⟩
theorem binOf_eq {n : Nat} {o : Fn} {L : Nat} (h : Ow n o L) {i b : Nat} (hb : b < n) (e : o b = (i : Int)) : binOf o n i = b := by
  have hi : i < L := by rcases h.is b hb with e' | e' <;> omega
  obtain ⟨h1, h2⟩ := binOf_is h hi
  exact h.inj _ h1 b hb (by omega) (by rw [h2, e])
def tab (n : Nat) (f : Fn) : List Int := (List.range n).map f
theorem tab_len (n : Nat) (f : Fn) : (tab n f).length = n := by simp [tab]
theorem tab_get (f : Fn) {n i : Nat} (h : i < n) : (tab n f).getD i 0 = f i := by simp [tab, h]
def fitL (c : List (List Int)) (n : Nat) : List Int := tab n fun i => (binOf (fitTo c n n).o n i : Int)
def loadsL (c : List (List Int)) (n : Nat) : List Int := tab n (fitTo c n n).u
def binsL (c : List (List Int)) (n : Nat) : List Int := tab n (fitTo c n n).v
theorem fit_ord {c : List (List Int)} {n : Nat} (hc : Good c n) : Od.ordB (fitL c n) n = true := by
  have h := (fit_ou hc n (Nat.le_refl _)).ow
  refine Od.ordB_iff.2 ⟨tab_len _ _, fun i hi => ?_, fun i j hi hj e => ?_⟩
  · have := (binOf_is h hi).1
    rw [fitL, tab_get _ hi]; omega
  · rw [fitL, tab_get _ hi, tab_get _ hj] at e
    have h1 := (binOf_is h hi).2
    have h2 := (binOf_is h hj).2
    have e' : binOf (fitTo c n n).o n i = binOf (fitTo c n n).o n j := by omega
    rw [e'] at h1
    omega
/-- What an order costs over the first k loads. -/
def costTo (c : List (List Int)) (os : List Int) : Nat → Int
  | 0 => 0
  | k + 1 => costTo c os k + ct c k (Od.nth os k)
def sumTo (f : Fn) : Nat → Int
  | 0 => 0
  | k + 1 => sumTo f k + f k
theorem sum_perm {l m : List Int} (h : l.Perm m) : l.sum = m.sum := by
  induction h with
  | nil => rfl
  | cons x _ ih => simp only [List.sum_cons, ih]
  | swap x y l => simp only [List.sum_cons]; omega
  | trans _ _ ih1 ih2 => exact ih1.trans ih2
theorem sumTo_range (f : Fn) : ∀ k, sumTo f k = ((List.range k).map f).sum
  | 0 => rfl
  | k + 1 => by rw [sumTo, sumTo_range f k, List.range_succ, List.map_append, List.sum_append]; simp
theorem perm_range {l : List Nat} {n : Nat} (hl : l.length = n) (hd : l.Nodup) (hb : ∀ x ∈ l, x < n) : l.Perm (List.range n) := by
  have all := all_in (n := n) (by omega) hd hb
  rw [List.perm_iff_count]
  intro a
  rw [hd.count, List.nodup_range.count]
  by_cases h : a < n
  · rw [if_pos (all a h), if_pos (by simpa using h)]
  · rw [if_neg (fun hm => h (hb a hm)), if_neg (by simpa using h)]
/-- A sum over all does not hang on the order. -/
theorem sum_ord {os : List Int} {n : Nat} (h : Od.ordB os n = true) (f : Fn) : sumTo (fun i => f (Od.nth os i)) n = sumTo f n := by
  rw [sumTo_range, sumTo_range]
  have e : ((List.range n).map fun i => f (Od.nth os i)) = ((List.range n).map (Od.nth os)).map f := by simp
  rw [e]
  refine sum_perm ?_
  refine List.Perm.map f ?_
  obtain ⟨hl, h1, h2⟩ := Od.ordB_iff.1 h
  refine perm_range (by simp) ?_ ?_
  · rw [List.nodup_iff_pairwise_ne, List.pairwise_map]
    refine List.Pairwise.imp_of_mem ?_ (List.nodup_iff_pairwise_ne.1 List.nodup_range)
    intro a b ha hb hab e
    have ha' := List.mem_range.1 ha
    have hb' := List.mem_range.1 hb
    exact hab (h2 a b ha' hb' (by rw [Od.nth_cast h ha', Od.nth_cast h hb', e]))
  · intro x hx
    obtain ⟨i, hi, rfl⟩ := List.mem_map.1 hx
    exact Od.nth_lt h (List.mem_range.1 hi)
/-- Prices that hold are together no more than any order costs. -/
theorem weak {c : List (List Int)} {n : Nat} {os : List Int} {u v : Fn} (ho : Od.ordB os n = true) (hf : ∀ i, i < n → ∀ b, b < n → u i + v b ≤ ct c i b) : sumTo u n + sumTo v n ≤ costTo c os n := by
  rw [← sum_ord ho v]
  have : ∀ k, k ≤ n → sumTo u k + sumTo (fun i => v (Od.nth os i)) k ≤ costTo c os k := by
    intro k
    induction k with
    | zero => intro _; simp [sumTo, costTo]
    | succ k ih =>
      intro hk
      have h1 := ih (by omega)
      have h2 := hf k (by omega) (Od.nth os k) (Od.nth_lt ho (by omega))
      simp only [sumTo, costTo]; omega
  exact this n (Nat.le_refl _)
theorem fit_nth {c : List (List Int)} {n i : Nat} (hi : i < n) : Od.nth (fitL c n) i = binOf (fitTo c n n).o n i := by
  rw [Od.nth, fitL, tab_get _ hi]; simp
/-- The cheapest fit costs as much as its prices together. -/
theorem strong {c : List (List Int)} {n : Nat} (hc : Good c n) : costTo c (fitL c n) n = sumTo (fitTo c n n).u n + sumTo (fitTo c n n).v n := by
  have h := fit_ou hc n (Nat.le_refl _)
  rw [← sum_ord (fit_ord hc) (fitTo c n n).v]
  have : ∀ k, k ≤ n → costTo c (fitL c n) k = sumTo (fitTo c n n).u k + sumTo (fun i => (fitTo c n n).v (Od.nth (fitL c n) i)) k := by
    intro k
    induction k with
    | zero => intro _; simp [sumTo, costTo]
    | succ k ih =>
      intro hk
      have h1 := ih (by omega)
      have hb := binOf_is h.ow (show k < n by omega)
      have h2 := h.pr.ti _ hb.1 (by omega)
      rw [hb.2, Int.toNat_natCast] at h2
      have e := fit_nth (c := c) (show k < n by omega)
      simp only [sumTo, costTo]
      rw [h1, e]
      omega
  exact this n (Nat.le_refl _)
theorem fit_tight {c : List (List Int)} {n i : Nat} (hc : Good c n) (hi : i < n) : (fitTo c n n).u i + (fitTo c n n).v (Od.nth (fitL c n) i) = ct c i (Od.nth (fitL c n) i) := by
  have h := fit_ou hc n (Nat.le_refl _)
  have hb := binOf_is h.ow hi
  have h2 := h.pr.ti _ hb.1 (by omega)
  rw [hb.2, Int.toNat_natCast] at h2
  rw [fit_nth hi]; exact h2
theorem least {c : List (List Int)} {n : Nat} {os : List Int} (hc : Good c n) (ho : Od.ordB os n = true) : costTo c (fitL c n) n ≤ costTo c os n := by
  rw [strong hc]
  exact weak ho (fit_ou hc n (Nat.le_refl _)).pr.fe
end Go.Proofs.Ytkebaklmkidfoaa.Hu
namespace Go.Proofs.Ytkebaklmkidfoaa.Hu

def rowB (n : Nat) (r : List Int) : Bool := decide (r.length = n) && Pf.allB r 0 100
def costB (c : List (List Int)) : Bool := (decide (1 ≤ c.length) && decide (c.length ≤ 10)) && c.all (rowB c.length)
theorem costB_row {c : List (List Int)} (h : costB c = true) {i : Nat} (hi : i < c.length) : (c.getD i []).length = c.length ∧ Pf.allB (c.getD i []) 0 100 = true := by
  simp only [costB, Bool.and_eq_true, List.all_eq_true] at h
  have h2 := h.2 (c.getD i []) (by rw [List.getD_eq_getElem?_getD, List.getElem?_eq_getElem hi]; exact List.getElem_mem _)
  simpa [rowB] using h2
theorem costB_len {c : List (List Int)} (h : costB c = true) : 1 ≤ c.length ∧ c.length ≤ 10 := by
  simp only [costB, Bool.and_eq_true, decide_eq_true_eq] at h; exact h.1
theorem costB_not {c : List (List Int)} {i : Nat} (hi : i < c.length) (h : rowB c.length (c.getD i []) = false) : costB c = false := by
  cases e : costB c
  · rfl
  · have := costB_row e hi
    rw [rowB, this.1, this.2] at h
    simp at h
theorem costB_of {c : List (List Int)} (h1 : 1 ≤ c.length) (h2 : c.length ≤ 10) (h : ∀ i, i < c.length → rowB c.length (c.getD i []) = true) : costB c = true := by
  simp only [costB, Bool.and_eq_true, decide_eq_true_eq, List.all_eq_true]
  refine ⟨⟨h1, h2⟩, fun r hr => ?_⟩
  obtain ⟨i, hi, rfl⟩ := List.getElem_of_mem hr
  have := h i hi
  rwa [List.getD_eq_getElem?_getD, List.getElem?_eq_getElem hi] at this
theorem costB_good {c : List (List Int)} (h : costB c = true) : Good c c.length := by
  refine ⟨fun i hi b hb => ?_⟩
  obtain ⟨h1, h2⟩ := costB_row h hi
  exact Pf.inB_yes (Pf.allB_get h2 (by omega))

def fcB (c : List (List Int)) (os : List Int) : Bool := costB c && Od.ordB os c.length
def fcI (c : List (List Int)) (os : List Int) : Int := if fcB c os then costTo c os c.length else 0
def prB (us vs : List Int) : Bool := decide (us.length = vs.length) && (decide (us.length ≤ 10) && (Pf.allB us (-100000) 100000 && Pf.allB vs (-100000) 100000))
theorem prB_yes {us vs : List Int} (h : prB us vs = true) : us.length = vs.length ∧ us.length ≤ 10 ∧ Pf.allB us (-100000) 100000 = true ∧ Pf.allB vs (-100000) 100000 = true := by
  simpa [prB] using h
def psI (us vs : List Int) : Int := if prB us vs then us.sum + vs.sum else 0
def bothB (c : List (List Int)) (us vs : List Int) : Bool := costB c && (prB us vs && decide (us.length = c.length))
theorem bothB_yes {c : List (List Int)} {us vs : List Int} (h : bothB c us vs = true) : costB c = true ∧ prB us vs = true ∧ us.length = c.length := by
  simpa [bothB] using h
/-- Both prices against the cost. -/
def fitsAt (c : List (List Int)) (us vs : List Int) (i b : Nat) : Bool := decide (us.getD i 0 + vs.getD b 0 ≤ ct c i b)
def tightAt (c : List (List Int)) (us vs : List Int) (i b : Nat) : Bool := decide (us.getD i 0 + vs.getD b 0 = ct c i b)
def holdB (c : List (List Int)) (us vs : List Int) : Bool := (List.range c.length).all fun i => (List.range c.length).all fun b => fitsAt c us vs i b
theorem holdB_iff {c : List (List Int)} {us vs : List Int} : holdB c us vs = true ↔ ∀ i, i < c.length → ∀ b, b < c.length → us.getD i 0 + vs.getD b 0 ≤ ct c i b := by
  simp [holdB, fitsAt]
def phI (c : List (List Int)) (us vs : List Int) : Bool := bothB c us vs && holdB c us vs
def tightR (c : List (List Int)) (us vs : List Int) (i : Nat) : List Bool := (List.range c.length).map (tightAt c us vs i)
def tightL (c : List (List Int)) (us vs : List Int) : List (List Bool) := (List.range c.length).map (tightR c us vs)
def taL (c : List (List Int)) (us vs : List Int) : List (List Bool) := if bothB c us vs then tightL c us vs else []

theorem sum_tab (f : Fn) (n : Nat) : (tab n f).sum = sumTo f n := (sumTo_range f n).symm
theorem tab_self {xs : List Int} : tab xs.length (fun i => xs.getD i 0) = xs := by
  apply List.ext_getElem
  · simp [tab]
  · intro i h1 h2; simp [tab, h2]
theorem sum_self (xs : List Int) : xs.sum = sumTo (fun i => xs.getD i 0) xs.length := by
  rw [← sum_tab, tab_self]

/-- What CheapestFit answers. -/
def cfF (c : List (List Int)) : List Int := if costB c then fitL c c.length else []
def cfU (c : List (List Int)) : List Int := if costB c then loadsL c c.length else []
def cfV (c : List (List Int)) : List Int := if costB c then binsL c c.length else []
theorem cf_len {c : List (List Int)} (h : costB c = true) : (cfF c).length = c.length ∧ (cfU c).length = c.length ∧ (cfV c).length = c.length := by
  simp [cfF, cfU, cfV, h, fitL, loadsL, binsL, tab_len]
theorem cf_fit {c : List (List Int)} (h : costB c = true) : fcB c (cfF c) = true := by
  rw [fcB, h, cfF, if_pos h, fit_ord (costB_good h)]; rfl
theorem cf_bd {c : List (List Int)} (h : costB c = true) : Pf.allB (cfU c) 0 100 = true ∧ Pf.allB (cfV c) (-100) 0 = true := by
  have hg := costB_good h
  have ho := fit_ou hg c.length (Nat.le_refl _)
  obtain ⟨_, l2, l3⟩ := cf_len h
  refine ⟨Pf.allB_of fun i hi => ?_, Pf.allB_of fun i hi => ?_⟩
  · rw [l2] at hi
    rw [cfU, if_pos h, loadsL, tab_get _ hi]
    exact Pf.inB_of (ho.pr.up i hi) (ho.ub i hi)
  · rw [l3] at hi
    rw [cfV, if_pos h, binsL, tab_get _ hi]
    have := ho.vl hg (Nat.le_refl _) i hi
    exact Pf.inB_of this.1 this.2
theorem cf_prices {c : List (List Int)} (h : costB c = true) : bothB c (cfU c) (cfV c) = true := by
  obtain ⟨h1, h2⟩ := cf_bd h
  obtain ⟨_, l2, l3⟩ := cf_len h
  have hl := costB_len h
  have w1 : Pf.allB (cfU c) (-100000) 100000 = true := Pf.allB_of fun i hi => by
    have := Pf.inB_yes (Pf.allB_get h1 hi); exact Pf.inB_of (by omega) (by omega)
  have w2 : Pf.allB (cfV c) (-100000) 100000 = true := Pf.allB_of fun i hi => by
    have := Pf.inB_yes (Pf.allB_get h2 hi); exact Pf.inB_of (by omega) (by omega)
  simp [bothB, prB, h, l2, l3, w1, w2, hl.2]
theorem cf_pr {c : List (List Int)} (h : costB c = true) : prB (cfU c) (cfV c) = true := (bothB_yes (cf_prices h)).2.1
theorem cf_hold {c : List (List Int)} (h : costB c = true) : holdB c (cfU c) (cfV c) = true := by
  refine holdB_iff.2 fun i hi b hb => ?_
  have := (fit_ou (costB_good h) c.length (Nat.le_refl _)).pr.fe i hi b hb
  rw [cfU, if_pos h, cfV, if_pos h, loadsL, binsL, tab_get _ hi, tab_get _ hb]
  exact this
theorem cf_tight {c : List (List Int)} (h : costB c = true) {i : Nat} (hi : i < c.length) : tightAt c (cfU c) (cfV c) i (Od.nth (cfF c) i) = true := by
  have hn : Od.nth (cfF c) i < c.length := by
    rw [cfF, if_pos h]; exact Od.nth_lt (fit_ord (costB_good h)) hi
  have := fit_tight (costB_good h) hi
  rw [tightAt, decide_eq_true_eq, cfU, if_pos h, cfV, if_pos h, loadsL, binsL, tab_get _ hi]
  rw [cfF, if_pos h] at hn ⊢
  rw [tab_get _ hn]
  exact this
/-- The cheapest fit costs as much as its prices together (Egervary). -/
theorem cf_cost {c : List (List Int)} (h : costB c = true) : fcI c (cfF c) = psI (cfU c) (cfV c) := by
  rw [fcI, cf_fit h, psI, cf_pr h, if_pos rfl, if_pos rfl, cfF, if_pos h, cfU, if_pos h, cfV, if_pos h, loadsL, binsL, sum_tab, sum_tab]
  exact strong (costB_good h)
theorem hold_le {c : List (List Int)} {us vs os : List Int} (hb : bothB c us vs = true) (hh : holdB c us vs = true) (ho : Od.ordB os c.length = true) : psI us vs ≤ fcI c os := by
  obtain ⟨h1, h2, h3⟩ := bothB_yes hb
  have h4 := (prB_yes h2).1
  rw [psI, h2, if_pos rfl, fcI, fcB, h1, ho]
  simp only [Bool.and_self, if_true]
  rw [sum_self us, sum_self vs, ← h4, h3]
  exact weak ho (holdB_iff.1 hh)
/-- No other order costs less. -/
theorem cf_least {c : List (List Int)} {os : List Int} (h : fcB c os = true) : psI (cfU c) (cfV c) ≤ fcI c os := by
  simp only [fcB, Bool.and_eq_true] at h
  exact hold_le (cf_prices h.1) (cf_hold h.1) h.2
theorem cf_weak {c : List (List Int)} {us vs : List Int} (hb : bothB c us vs = true) (hh : holdB c us vs = true) : psI us vs ≤ fcI c (cfF c) := by
  have h := (bothB_yes hb).1
  refine hold_le hb hh ?_
  rw [cfF, if_pos h]; exact fit_ord (costB_good h)

/-- The least of the first k, or the first. -/
def leastTo (r : List Int) : Nat → Int
  | 0 => r.getD 0 0
  | k + 1 => if r.getD k 0 < leastTo r k then r.getD k 0 else leastTo r k
def lst (r : List Int) : Int := leastTo r r.length
theorem leastTo_le (r : List Int) : ∀ k, ∀ i, i < k → leastTo r k ≤ r.getD i 0
  | 0, i, h => by omega
  | k + 1, i, h => by
    rw [leastTo]
    by_cases e : i = k
    · subst e; split <;> omega
    · have := leastTo_le r k i (by omega)
      split <;> omega
theorem leastTo_is (r : List Int) : ∀ k, k ≤ r.length → 0 < r.length → ∃ i, i < r.length ∧ leastTo r k = r.getD i 0
  | 0, _, h => ⟨0, h, rfl⟩
  | k + 1, hk, h => by
    rw [leastTo]
    split
    · exact ⟨k, by omega, rfl⟩
    · exact leastTo_is r k (by omega) h
def redR (r : List Int) : List Int := r.map fun x => x - lst r
def redL (c : List (List Int)) : List (List Int) := c.map redR
theorem redR_len (r : List Int) : (redR r).length = r.length := by simp [redR]
theorem redR_get (r : List Int) {i : Nat} (h : i < r.length) : (redR r).getD i 0 = r.getD i 0 - lst r := by simp [redR, h]
theorem redL_len (c : List (List Int)) : (redL c).length = c.length := by simp [redL]
theorem redL_get (c : List (List Int)) {i : Nat} (h : i < c.length) : (redL c).getD i [] = redR (c.getD i []) := by simp [redL, h]
theorem lst_bd {r : List Int} (h : Pf.allB r 0 100 = true) (hl : 0 < r.length) : 0 ≤ lst r ∧ lst r ≤ 100 := by
  obtain ⟨i, hi, e⟩ := leastTo_is r r.length (Nat.le_refl _) hl
  rw [lst, e]
  exact Pf.inB_yes (Pf.allB_get h hi)
theorem redR_all {r : List Int} (h : Pf.allB r 0 100 = true) : Pf.allB (redR r) 0 100 = true := by
  refine Pf.allB_of fun i hi => ?_
  rw [redR_len] at hi
  rw [redR_get r hi]
  have h1 := Pf.inB_yes (Pf.allB_get h hi)
  have h2 := lst_bd h (by omega)
  have h3 := leastTo_le r r.length i hi
  unfold lst at *
  exact Pf.inB_of (by omega) (by omega)
theorem red_good {c : List (List Int)} (h : costB c = true) : costB (redL c) = true := by
  have hl := costB_len h
  refine costB_of (by rw [redL_len]; exact hl.1) (by rw [redL_len]; exact hl.2) fun i hi => ?_
  rw [redL_len] at hi ⊢
  rw [redL_get c hi]
  obtain ⟨h1, h2⟩ := costB_row h hi
  rw [rowB, redR_len, h1, redR_all h2]
  simp
theorem red_ct {c : List (List Int)} (h : costB c = true) {i b : Nat} (hi : i < c.length) (hb : b < c.length) : ct (redL c) i b = ct c i b - lst (c.getD i []) := by
  rw [ct, redL_get c hi, redR_get _ (by rw [(costB_row h hi).1]; exact hb)]; rfl
theorem red_cost {c : List (List Int)} (h : costB c = true) {os : List Int} (ho : Od.ordB os c.length = true) : ∀ k, k ≤ c.length → costTo c os k = costTo (redL c) os k + sumTo (fun i => lst (c.getD i [])) k
  | 0, _ => by simp [costTo, sumTo]
  | k + 1, hk => by
    have h1 := red_cost h ho k (by omega)
    have h2 := red_ct h (show k < c.length by omega) (Od.nth_lt ho (show k < c.length by omega))
    simp only [costTo, sumTo]; omega
/-- What was taken of each row, seen at its first number. -/
def offTo (c : List (List Int)) : Nat → Int
  | 0 => 0
  | k + 1 => offTo c k + (ct c k 0 - ct (redL c) k 0)
theorem off_sum {c : List (List Int)} (h : costB c = true) : ∀ k, k ≤ c.length → offTo c k = sumTo (fun i => lst (c.getD i [])) k
  | 0, _ => rfl
  | k + 1, hk => by
    have h1 := off_sum h k (by omega)
    have h2 := red_ct h (show k < c.length by omega) (show 0 < c.length by omega)
    simp only [offTo, sumTo]; omega
/-- Rows less their least number make the fit just that much cheaper. -/
theorem red_fit {c : List (List Int)} (h : costB c = true) : fcI c (cfF c) = fcI (redL c) (cfF (redL c)) + offTo c c.length := by
  have hr := red_good h
  have e1 := cf_cost h
  have e2 := cf_cost hr
  have hl := redL_len c
  have o1 : Od.ordB (cfF c) c.length = true := by rw [cfF, if_pos h]; exact fit_ord (costB_good h)
  have o2 : Od.ordB (cfF (redL c)) c.length = true := by
    rw [cfF, if_pos hr]
    have := fit_ord (costB_good hr)
    rwa [hl] at this ⊢
  have f1 : fcB c (cfF (redL c)) = true := by rw [fcB, h, o2]; rfl
  have f2 : fcB (redL c) (cfF c) = true := by rw [fcB, hr, hl, o1]; rfl
  have g1 := cf_least f1
  have g2 := cf_least f2
  have c1 := red_cost h o1 c.length (Nat.le_refl _)
  have c2 := red_cost h o2 c.length (Nat.le_refl _)
  have v1 : fcI c (cfF c) = costTo c (cfF c) c.length := by rw [fcI, cf_fit h]; rfl
  have v2 : fcI (redL c) (cfF (redL c)) = costTo (redL c) (cfF (redL c)) c.length := by rw [fcI, cf_fit hr, hl]; rfl
  have v3 : fcI c (cfF (redL c)) = costTo c (cfF (redL c)) c.length := by rw [fcI, f1]; rfl
  have v4 : fcI (redL c) (cfF c) = costTo (redL c) (cfF c) c.length := by rw [fcI, f2, hl]; rfl
  have e3 := off_sum h c.length (Nat.le_refl _)
  omega
/-- What a fit costs is small. -/
theorem costTo_bd {c : List (List Int)} (h : costB c = true) {os : List Int} (ho : Od.ordB os c.length = true) : ∀ k, k ≤ c.length → 0 ≤ costTo c os k ∧ costTo c os k ≤ 100 * (k : Int)
  | 0, _ => by simp [costTo]
  | k + 1, hk => by
    have h1 := costTo_bd h ho k (by omega)
    have h2 := (costB_good h).cl k (by omega) _ (Od.nth_lt ho (show k < c.length by omega))
    simp only [costTo]; omega
end Go.Proofs.Ytkebaklmkidfoaa.Hu
namespace Go.Proofs.Ytkebaklmkidfoaa
open Go.RowKit

theorem costB_few {c : List (List Int)} (h : ¬ (1 ≤ c.length ∧ c.length ≤ 10)) : Hu.costB c = false := by
  cases e : Hu.costB c
  · rfl
  · exact absurd (Hu.costB_len e) h
theorem rowB_len {n : Nat} {r : List Int} (h : r.length ≠ n) : Hu.rowB n r = false := by simp [Hu.rowB, h]
theorem rowB_all {n : Nat} {r : List Int} (h : r.length = n) : Hu.rowB n r = Pf.allB r 0 100 := by simp [Hu.rowB, h]
theorem costB_eq (C : List (List Int)) : Hu.costB C = (Pf.inB (C.length : Int) 1 10 && Nt.sqB 100 C) := by
  have e1 : (decide (1 ≤ C.length) && decide (C.length ≤ 10)) = Pf.inB (C.length : Int) 1 10 := by
    unfold Pf.inB
    congr 1 <;> exact decide_eq_decide.2 (by omega)
  have e2 : C.all (Hu.rowB C.length) = Nt.sqB 100 C := rfl
  rw [Hu.costB, e1, e2]
set_option maxRecDepth 100000 in
set_option maxHeartbeats 2000000 in
theorem gc_any {a : Option Addr} {n c : Nat} {C : List (List Int)} {w : World} (hn : C.length = n) (h : CRow w a C) :
    Calls Try.prog 10 #[.slice a n c] w fun e w' => e = .returned (.bool (Hu.costB C)) ∧ w' = w := by
  have HE := hide (costB_eq C)
  rw [hn] at HE
  cases hi : Pf.inB (n : Int) 1 10
  · have H1 : Hid (Hu.costB C = false) := hide (by rw [HE.out, hi]; rfl)
    generalize Hu.costB C = G at *
    clear h hn HE
    go_enter Try.func10, Try.ntmps10
    go_wp2_with fail
    refine (between_eq hi).mono ?_
    rintro e w1 ⟨rfl, hw1⟩
    obtain rfl : w = w1 := hw1.symm
    go_wp2_with fail
    go_ret
    exact ⟨ret_bool H1.out.symm, rfl⟩
  · have hl := Pf.inB_yes hi
    have H1 : Hid (Hu.costB C = Nt.sqB 100 C) := hide (by rw [HE.out, hi]; rfl)
    have HC := hide (as_any (c := c) (g := 100) hn (by omega) h)
    generalize Hu.costB C = G at *
    generalize Nt.sqB 100 C = Y at *
    clear h hn HE
    go_enter Try.func10, Try.ntmps10
    go_wp2_with fail
    refine (between_eq hi).mono ?_
    rintro e w1 ⟨rfl, hw1⟩
    obtain rfl : w = w1 := hw1.symm
    go_wp2_with fail
    refine HC.out.mono ?_
    rintro e w1 ⟨rfl, hw1⟩
    obtain rfl : w = w1 := hw1.symm
    go_wp2_with fail
    go_ret
    exact ⟨ret_bool H1.out.symm, rfl⟩
theorem gc_eq {a : Option Addr} {n c : Nat} {C : List (List Int)} {w : World} {r : Bool} (hn : Hid (C.length = n)) (h : Hid (CRow w a C)) (hr : Hid (Hu.costB C = r)) :
    Calls Try.prog 10 #[.slice a n c] w fun e w' => e = .returned (.bool r) ∧ w' = w := hr.out ▸ gc_any hn.out h.out
set_option maxRecDepth 100000 in
set_option maxHeartbeats 2000000 in
theorem sgc_any {a : Option Addr} {n c : Nat} {C : List (List Int)} {w : World} (hn : C.length = n) (hl : n ≤ 1048576) (h : CRow w a C) :
    Calls Try.prog 28 #[.slice a n c] w fun e w' => e = .returned (.bool (Hu.costB C)) ∧ w' = w := by
  have HN := hide hn
  have H := hide h
  have HNOT := hide fun (i : Nat) (hi : i < C.length) (hh : Hu.rowB C.length (C.getD i []) = false) => Hu.costB_not hi hh
  have HOF := hide (@Hu.costB_of C)
  have HFEW := hide (@costB_few C)
  rw [hn] at HNOT HOF HFEW
  generalize Hu.costB C = G at *
  clear h hn
  go_enter Try.func28, Try.ntmps28
  go_wp2_with fail
  go_loop [2, 4, 7] (fun s2 _ s => ∃ (k : Nat), s2 = .bool false ∧ s = .int .i64 k ∧ k ≤ n ∧ Hid (∀ i, i < k → Hu.rowB n (C.getD i []) = true)) (fun _ _ s => n - (intOf s).toNat)
  case atStart => exact ⟨0, rfl, rfl, Nat.zero_le _, hide fun i hi => absurd hi (Nat.not_lt_zero _)⟩
  case round =>
    obtain ⟨k, rfl, rfl, hk, HK⟩ := hrel
    by_cases hlt : k < n
    · obtain ⟨b, off, ai, ci, rfl, hb, r1, R1⟩ := H.out.at (i := k) (by rw [HN.out]; exact hlt)
      have j0 : (0 : Int) ≤ (k : Int) := by omega
      have j1 : (k : Int) < (n : Int) := by omega
      have HR := hide R1
      have HRB := hide (fun h => rowB_all (r := C.getD k []) (n := n) h)
      have HRL := hide (fun h => rowB_len (r := C.getD k []) (n := n) h)
      generalize hq : (C.getD k []).length = q at r1 HRB HRL
      have HQ := hide hq
      clear hq R1
      by_cases e : q = n
      · subst e
        have he : ((q : Int) != (q : Int)) = false := by simp
        cases hal : Pf.allB (C.getD k []) 0 100
        · have HAL := hide hal
          have H1 := hide (HNOT.out k hlt ((HRB.out rfl).trans hal))
          clear hal
          go_wp2_with fail
          refine (all9_eqn HR HQ (by omega) HAL).mono ?_
          rintro e w1 ⟨rfl, hw1⟩
          obtain rfl : w = w1 := hw1.symm
          go_wp2_with fail
          go_ret
          exact ⟨ret_bool H1.out.symm, rfl⟩
        · have HAL := hide hal
          have H1 : Hid (∀ i, i < k + 1 → Hu.rowB q (C.getD i []) = true) := hide fun i hi => by
            by_cases e : i = k
            · subst e; exact (HRB.out rfl).trans hal
            · exact HK.out i (by omega)
          clear hal
          go_wp2_with fail
          refine (all9_eqn HR HQ (by omega) HAL).mono ?_
          rintro e w1 ⟨rfl, hw1⟩
          obtain rfl : w = w1 := hw1.symm
          go_wp2_with fail
          go_round
          case rel => exact ⟨k + 1, rfl, by go_num, by omega, H1⟩
          case measure => simp only [intOf]; omega
      · have he : ((q : Int) != (n : Int)) = true := by simp; omega
        have H1 := hide (HNOT.out k hlt (HRL.out e))
        clear e
        go_wp2_with fail
        go_ret
        exact ⟨ret_bool H1.out.symm, rfl⟩
    · have hke : k = n := by omega
      subst hke
      by_cases h10 : 1 ≤ k ∧ k ≤ 10
      · have H1 := hide (HOF.out h10.1 h10.2 HK.out)
        obtain ⟨g1, g2⟩ := h10
        go_wp2_with fail
        refine (in_yes (by omega) (by omega)).mono ?_
        rintro e w1 ⟨rfl, hw1⟩
        obtain rfl : w = w1 := hw1.symm
        go_wp2_with fail
        go_ret
        exact ⟨ret_bool H1.out.symm, rfl⟩
      · have H1 := hide (HFEW.out h10)
        have g1 : (k : Int) < 1 ∨ (10 : Int) < (k : Int) := by omega
        have HG1 := hide g1
        clear g1 h10
        go_wp2_with fail
        refine (in_no HG1.out).mono ?_
        rintro e w1 ⟨rfl, hw1⟩
        obtain rfl : w = w1 := hw1.symm
        go_wp2_with fail
        go_ret
        exact ⟨ret_bool H1.out.symm, rfl⟩
theorem sgc_eq {a : Option Addr} {n c : Nat} {C : List (List Int)} {w : World} {r : Bool} (hn : Hid (C.length = n)) (hl : n ≤ 1048576) (h : Hid (CRow w a C)) (hr : Hid (Hu.costB C = r)) :
    Calls Try.prog 28 #[.slice a n c] w fun e w' => e = .returned (.bool r) ∧ w' = w := hr.out ▸ sgc_any hn.out hl h.out
end Go.Proofs.Ytkebaklmkidfoaa
namespace Go.Proofs.Ytkebaklmkidfoaa
open Go.RowKit

theorem least_step (r : List Int) (k : Nat) : min (Hu.leastTo r k) (r.getD k 0) = Hu.leastTo r (k + 1) := by
  rw [Hu.leastTo]
  split <;> omega
theorem least_one (r : List Int) : Hu.leastTo r 1 = r.getD 0 0 := by simp [Hu.leastTo]
theorem redR_set (r zs : List Int) (k : Nat) (hz : zs.length = r.length) (hk : k < r.length) (h : zs.take k = (Hu.redR r).take k) : (zs.set k (r.getD k 0 - Hu.lst r)).take (k + 1) = (Hu.redR r).take (k + 1) := by
  apply List.ext_getElem
  · simp [hz, Hu.redR]
  · intro i h1 h2
    simp at h1 h2
    simp only [List.getElem_take, List.getElem_set]
    by_cases e : k = i
    · subst e; simp [Hu.redR, hk]
    · simp only [e, if_false]
      have : (zs.take k)[i]? = ((Hu.redR r).take k)[i]? := by rw [h]
      simp [show i < k by omega, show i < zs.length by omega, show i < (Hu.redR r).length by rw [Hu.redR_len]; omega] at this
      exact this
set_option maxRecDepth 100000 in
set_option maxHeartbeats 1000000 in
theorem min_any {a : Option Addr} {n c : Nat} {r : List Int} {w : World} (hn : r.length = n) (h1 : 1 ≤ n) (h10 : n ≤ 10) (ha : ARow w a r) :
    Calls Try.prog 48 #[.slice a n c] w fun e w' => e = .returned (.int .i64 (Hu.lst r)) ∧ w' = w := by
  obtain ⟨b0, o0, rfl, r0⟩ := ha.at (i := 0) (by omega)
  have HA := hide ha
  have HN := hide hn
  have HS := hide (least_step r)
  have H1 := hide (least_one r)
  have HE : Hid (Hu.leastTo r n = Hu.lst r) := hide (by rw [Hu.lst, hn])
  have i0 : ¬ (n : Int) < 1 := by omega
  have i1 : (0 : Int) < (n : Int) := by omega
  rw [← H1.out, Nat.add_zero] at r0
  clear ha hn
  go_enter Try.func48, Try.ntmps48
  go_wp2_with fail
  go_loop [3, 4] (fun s3 s => ∃ (k : Nat) (x : Int), s = .int .i64 k ∧ s3 = .int .i64 x ∧ 1 ≤ k ∧ k ≤ n ∧ Hid (x = Hu.leastTo r k)) (fun _ s => n - (intOf s).toNat)
  case atStart => exact ⟨1, _, rfl, rfl, Nat.le_refl _, h1, hide rfl⟩
  case round =>
    obtain ⟨k, x, rfl, rfl, k1, hk, HX⟩ := hrel
    by_cases hlt : k < n
    · obtain ⟨b, off, e0, r1⟩ := HA.out.at (i := k) (by rw [HN.out]; exact hlt)
      cases e0
      have j0 : (0 : Int) ≤ (k : Int) := by omega
      have j1 : (k : Int) < (n : Int) := by omega
      have HX1 : Hid (min x (r.getD k 0) = Hu.leastTo r (k + 1)) := hide (by rw [HX.out]; exact HS.out k)
      generalize r.getD k 0 = y at *
      go_wp2_with fail
      go_round
      case rel => exact ⟨k + 1, min x y, by go_num, by go_num, by omega, by omega, HX1⟩
      case measure => simp only [intOf]; omega
    · have hke : k = n := by omega
      subst hke
      go_wp2_with fail
      go_ret
      exact ⟨ret_int (HX.out.trans HE.out), rfl⟩
set_option maxRecDepth 20000 in
set_option maxHeartbeats 8000000 in
theorem rr_yes {a : Option Addr} {l c : Nat} {C : List (List Int)} {w : World} (hg : Hu.costB C = true) (hl : C.length = l) (hc : CRow w a C) :
    Calls Try.prog 22 #[.slice a l c] w fun e w' => e = .returned (.tuple #[.slice (some ⟨w.heap.size, 0, none⟩) l l, .bool true]) ∧ Below w.heap.size w w' ∧ COw w' w.heap.size w'.heap.size (Hu.redL C) := by
  have gl := Hu.costB_len hg
  rw [hl] at gl
  obtain ⟨l1, l10⟩ := gl
  have HC := hide hc
  have HL := hide hl
  have HG := hide hg
  have HCL := hide fun (i : Nat) (hi : i < l) => (Hu.costB_row hg (show i < C.length by rw [hl]; exact hi)).1.trans hl
  have HCA := hide fun (i : Nat) (hi : i < l) => (Hu.costB_row hg (show i < C.length by rw [hl]; exact hi)).2
  have HRL : Hid ((Hu.redL C).length = l) := hide (by rw [Hu.redL_len, hl])
  have HRG := hide fun (i : Nat) (hi : i < l) => Hu.redL_get C (show i < C.length by rw [hl]; exact hi)
  have hmk := makeC2_run l (by omega)
  have HMI := hide (makeI_run l (by omega))
  clear hc hl hg
  go_enter Try.func22, Try.ntmps22
  go_wp2_with fail
  refine (gc_eq HL HC HG).mono ?_
  rintro e w1 ⟨rfl, hw1⟩
  obtain rfl : w = w1 := hw1.symm
  go_wp2_with fail
  clear hmk
  go_loopw [5, 6, 7, 8, 9, 18] (fun _ _ _ _ _ s wr => ∃ (k : Nat) (gs : List Nat), s = .int .i64 k ∧ k ≤ l ∧ Hid (CSo wr w.heap.size w.heap.size gs (Hu.redL C) k l) ∧ Hid (Below w.heap.size w wr)) (fun _ _ _ _ _ s _ => l - (intOf s).toNat)
  case atStart => exact ⟨0, [], rfl, Nat.zero_le _, hide ⟨rfl, madeC2_own w l (by omega) [] _, fun i hi => absurd hi (Nat.not_lt_zero _), by simp, by simp⟩, hide (below_new _ _)⟩
  case round =>
    obtain ⟨k, gs, rfl, hk, HS, HB⟩ := hrel
    by_cases hlt : k < l
    · obtain ⟨b, off, ai, ci, rfl, hb, r0, R1⟩ := HC.out.at (i := k) (by rw [HL.out]; exact hlt)
      have r1 := (HB.out.cell (p := ⟨b, off + k, none⟩) hb).trans r0
      have HR := hide R1
      have HCk := hide (HCL.out k hlt)
      rw [HCL.out k hlt] at r1
      obtain ⟨Z, hZ⟩ : ∃ Z, Z = Hu.lst (C.getD k []) := ⟨_, rfl⟩
      have HMIN := hide (min_any (w := wr) (c := ci) HCk.out l1 l10 (R1.below HB.out))
      have bz := Hu.lst_bd (HCA.out k hlt) (by rw [HCk.out]; exact l1)
      rw [← hZ] at bz HMIN
      have HZ := hide hZ
      clear hZ r0
      have HAL := hide (HCA.out k hlt)
      have HRk := hide (HRG.out k hlt)
      have j0 : (0 : Int) ≤ (k : Int) := by omega
      have j1 : (k : Int) < (l : Int) := by omega
      have oB := HS.out.2.1
      obtain ⟨hB0, hB1⟩ := oB.lt _ rfl
      have c0 : wr.cell? ⟨w.heap.size, k, none⟩ = some (.slice none 0 0) := by
        rw [oB.cellAt k (by omega)]; simp [cvals, hlt]
      have f0 := oB.frozenAt k
      have ca : ∀ o, (wr.alloc o).cell? ⟨w.heap.size, k, none⟩ = some (.slice none 0 0) := fun o => ((below_new wr o).cell (p := ⟨w.heap.size, k, none⟩) hB1).trans c0
      have fa : ∀ o, (wr.alloc o).frozen? ⟨w.heap.size, k, none⟩ = false := fun o => ((below_new wr o).frozen (p := ⟨w.heap.size, k, none⟩) hB1).trans f0
      have hmk2 := HMI.out
      clear R1 oB
      go_wp2_with fail
      refine HMIN.out.mono ?_
      rintro e w2 ⟨rfl, hw2⟩
      obtain rfl : wr = w2 := hw2.symm
      go_wp2_with fail
      have HE3 := hide (World.setCell_alloc_past (w := wr) (.cells (madeCells #[.int .i64 0] l) 3) w.heap.size k (.slice (some ⟨wr.heap.size, 0, none⟩) l l) hB1)
      have own3 := made_own (wr.setCell ⟨w.heap.size, k, none⟩ (.slice (some ⟨wr.heap.size, 0, none⟩) l l)) l (by omega)
      have d0 : ((wr.setCell ⟨w.heap.size, k, none⟩ (.slice (some ⟨wr.heap.size, 0, none⟩) l l)).alloc (.cells (madeCells #[.int .i64 0] l) 3)).cell? ⟨w.heap.size, k, none⟩ = some (.slice (some ⟨wr.heap.size, 0, none⟩) l l) := ((below_new _ _).cell (p := ⟨w.heap.size, k, none⟩) (by simpa using hB1)).trans (World.cell?_setCell_same _ _ _ c0)
      have HB3 := hide ((HB.out.setCell (p := ⟨w.heap.size, k, none⟩) (Nat.le_refl _) (.slice (some ⟨wr.heap.size, 0, none⟩) l l)).trans ((below_new (wr.setCell ⟨w.heap.size, k, none⟩ (.slice (some ⟨wr.heap.size, 0, none⟩) l l)) (.cells (madeCells #[.int .i64 0] l) 3)).mono (by simpa using HB.out.size)))
      have hRs : w.heap.size < wr.heap.size := hB1
      rw [World.size_setCell] at own3
      obtain ⟨w3, hw3⟩ : ∃ w3, w3 = (wr.setCell ⟨w.heap.size, k, none⟩ (.slice (some ⟨wr.heap.size, 0, none⟩) l l)).alloc (.cells (madeCells #[.int .i64 0] l) 3) := ⟨_, rfl⟩
      rw [← hw3] at own3 d0 HB3 HE3 ⊢
      have hz3 : wr.heap.size < w3.heap.size := (own3.lt _ rfl).2
      obtain ⟨X, hX⟩ : ∃ X, X = wr.heap.size := ⟨_, rfl⟩
      rw [← hX] at own3 d0 HE3 hz3 ⊢
      have HO3 := hide (owns_low own3 (show w.heap.size ≤ X by omega))
      have HXe := hide hX
      have hwX : w.heap.size < X := by omega
      clear own3 hw3 hmk2 ca fa c0 f0 hX hRs
      go_loopw [8, 9, 33] (fun _ _ s wi => ∃ (j : Nat) (zs : List Int), s = .int .i64 j ∧ j ≤ l ∧ zs.length = l ∧ Hid (zs.take j = (Hu.redR (C.getD k [])).take j) ∧ Hid (wi.ownsRow w.heap.size 3 1 (.slice (some ⟨X, 0, none⟩) l l) l (ints zs)) ∧ Hid (w3.grownBy wi (some X)) ∧ Hid (Below w.heap.size w wi)) (fun _ _ s _ => l - (intOf s).toNat)
      case atStart => exact ⟨0, List.replicate l 0, rfl, Nat.zero_le _, by simp, hide (by simp), HO3, hide (World.grownBy.refl _ _), HB3⟩
      case round =>
        clear HO3 HB3
        obtain ⟨j, zs, rfl, hj, hzl, HT, HO, HGr, HBi⟩ := hrel
        by_cases hjl : j < l
        · obtain ⟨b2, o2, rfl, hb2, hr2⟩ := HR.out.resolve_left (by intro e; have := HCk.out; rw [e] at this; simp at this; omega)
          have r2 := (HBi.out.cell (p := ⟨b2, o2 + j, none⟩) hb2).trans (hr2 j (by rw [HCk.out]; exact hjl))
          have t0 : (0 : Int) ≤ (j : Int) := by omega
          have t1 : (j : Int) < (l : Int) := by omega
          have d1 : wr.cell? ⟨w.heap.size, k, none⟩ = some (.slice (some ⟨X, 0, none⟩) l l) := (World.cell?_of_block (w := w3) (a := ⟨w.heap.size, k, none⟩) (HGr.out.block w.heap.size (by omega) (by simp; omega))).trans d0
          have c3 : wr.cell? ⟨X, j, none⟩ = some (.int .i64 (zs.getD j 0)) := by rw [HO.out.cellAt j (by omega), ints_get zs j (by omega)]
          have f3 := HO.out.frozenAt j
          have HSET := hide (redR_set (C.getD k []) zs j (by rw [hzl, HCk.out]) (by rw [HCk.out]; exact hjl) HT.out)
          rw [← HZ.out] at HSET
          have bx := Pf.inB_yes (Pf.allB_get HAL.out (show j < (C.getD k []).length by rw [HCk.out]; exact hjl))
          generalize (C.getD k []).getD j 0 = x at *
          obtain ⟨st1, st2⟩ := HO.out.stored j (.int .i64 (x - Z))
          rw [ints_set] at st1
          have HST := hide st1
          have HG2 : Hid (w3.grownBy (wr.setCell ⟨X, j, none⟩ (.int .i64 (x - Z))) (some X)) := hide ⟨st2.os.trans HGr.out.os, st2.tape.trans HGr.out.tape, st2.output.trans HGr.out.output, Nat.le_trans HGr.out.size st2.size, fun b hb hne => (st2.block b (Nat.lt_of_lt_of_le hb HGr.out.size) hne).trans (HGr.out.block b hb hne)⟩
          have HB2 := hide (HBi.out.setCell (p := ⟨X, j, none⟩) (by show w.heap.size ≤ X; omega) (.int .i64 (x - Z)))
          clear hr2 st1 st2
          generalize zs.getD j 0 = y at c3
          go_wp2_with fail
          go_roundw
          case rel => exact ⟨j + 1, zs.set j (x - Z), by go_num, by omega, by simpa using hzl, HSET, HST, HG2, HB2⟩
          case measure => simp only [intOf]; omega
        · have hje : j = l := by omega
          subst hje
          have HE : Hid (zs = (Hu.redL C).getD k []) := hide (by
            have := HT.out
            rw [HRk.out]
            rwa [List.take_of_length_le (by omega), List.take_of_length_le (by rw [Hu.redR_len, HCk.out]; omega)] at this)
          have HS2 := hide (HS.out.fill (w2 := _) (w4 := wr) (g := X) (n := j) (below_new _ (.cells (madeCells #[.int .i64 0] j) 3)) (by rw [HXe.out]; exact Nat.le_refl _) (by rw [HE3.out]; exact HGr.out) (by rw [← HE.out]; exact HO.out) (by rw [← HE.out]; exact hzl))
          go_wp2_with fail
          go_roundw
          case rel => exact ⟨k + 1, gs ++ [X], by go_num, by omega, HS2, HBi⟩
          case measure => simp only [intOf]; omega
    · have hke : k = l := by omega
      subst hke
      have HO : Hid (COw wr w.heap.size wr.heap.size (Hu.redL C)) := hide ⟨Nat.le_refl _, (HS.out.2.1.lt _ rfl).2, gs, fun g hg => (HS.out.lt hg).2, by rw [HRL.out]; exact HS.out⟩
      go_wp2_with fail
      go_ret2
      exact ⟨rfl, HB.out, HO.out⟩
theorem infoIs : ∃ i, Try.prog.info? 25 = some i ∧ i.zero = some (.slice none 0 0) ∧ i.size = 1 ∧ i.bytes = 24 := by
  have h : (Try.prog.info? 25).map (fun i => (i.zero, i.size, i.bytes)) = some (some (.slice none 0 0), 1, 24) := by kernel_rfl
  obtain ⟨i, hi, hzz⟩ := Option.map_eq_some_iff.1 h
  simp only [Prod.mk.injEq] at hzz
  exact ⟨i, hi, hzz.1, hzz.2.1, hzz.2.2⟩
theorem redR_snoc (r : List Int) {j : Nat} (hj : j < r.length) : (Hu.redR r).take j ++ [r.getD j 0 - Hu.lst r] = (Hu.redR r).take (j + 1) := by
  rw [List.take_add_one, List.getElem?_eq_getElem (by rw [Hu.redR_len]; exact hj)]
  simp [Hu.redR, hj]
theorem redL_snoc (C : List (List Int)) {k : Nat} (hk : k < C.length) : (Hu.redL C).take k ++ [Hu.redR (C.getD k [])] = (Hu.redL C).take (k + 1) := by
  rw [List.take_add_one, List.getElem?_eq_getElem (by rw [Hu.redL_len]; exact hk)]
  simp [Hu.redL, hk]
set_option maxRecDepth 20000 in
set_option maxHeartbeats 8000000 in
theorem srr_yes {a : Option Addr} {l c : Nat} {C : List (List Int)} {w : World} (hg : Hu.costB C = true) (hl : C.length = l) (hc : CRow w a C) :
    Calls Try.prog 23 #[.slice a l c] w fun e w' => ∃ G D, e = .returned (.tuple #[.slice (some ⟨G, 0, none⟩) l D, .bool true]) ∧ Below w.heap.size w w' ∧ CRow w' (some ⟨G, 0, none⟩) (Hu.redL C) := by
  have gl := Hu.costB_len hg
  rw [hl] at gl
  obtain ⟨l1, l10⟩ := gl
  have HC := hide hc
  have HL := hide hl
  have HG := hide hg
  have HCL := hide fun (i : Nat) (hi : i < l) => (Hu.costB_row hg (show i < C.length by rw [hl]; exact hi)).1.trans hl
  have HCA := hide fun (i : Nat) (hi : i < l) => (Hu.costB_row hg (show i < C.length by rw [hl]; exact hi)).2
  have HRL : Hid ((Hu.redL C).length = l) := hide (by rw [Hu.redL_len, hl])
  clear hc hl hg
  go_enter Try.func23, Try.ntmps23
  go_wp2_with fail
  refine (sgc_eq HL (by omega) HC HG).mono ?_
  rintro e w1 ⟨rfl, hw1⟩
  obtain rfl : w = w1 := hw1.symm
  go_wp2_with fail
  go_loopw [4, 6, 7, 9, 10, 12, 18] (fun v _ _ _ _ _ s wr => ∃ (k : Nat) (gs : List (Nat × Nat)), s = .int .i64 k ∧ k ≤ l ∧ Hid (NOw9 wr w.heap.size l k v gs ((Hu.redL C).take k)) ∧ Hid (k = 0 ∨ ∃ G D, v = .slice (some ⟨G, 0, none⟩) k D) ∧ Hid (Below w.heap.size w wr)) (fun _ _ _ _ _ _ s _ => l - (intOf s).toNat)
  case atStart => exact ⟨0, [], rfl, Nat.zero_le _, hide (NOw9.nil _ _ _), hide (Or.inl rfl), hide (Below.refl _ _)⟩
  case round =>
    obtain ⟨k, gs, rfl, hk, HS, HV, HB⟩ := hrel
    by_cases hlt : k < l
    · obtain ⟨b, off, ai, ci, rfl, hb, r0, R1⟩ := HC.out.at (i := k) (by rw [HL.out]; exact hlt)
      have r1 := (HB.out.cell (p := ⟨b, off + k, none⟩) hb).trans r0
      have HCk := hide (HCL.out k hlt)
      rw [HCL.out k hlt] at r1
      obtain ⟨b2, o2, rfl, hb2, hr2⟩ := R1.resolve_left (by intro e; have := HCk.out; rw [e] at this; simp at this; omega)
      have HR2 := hide hr2
      have bz := hide (Hu.lst_bd (HCA.out k hlt) (by rw [HCk.out]; exact l1))
      have HAL := hide (HCA.out k hlt)
      have HSN := hide (redL_snoc C (show k < C.length by rw [HL.out]; exact hlt))
      have j0 : (0 : Int) ≤ (k : Int) := by omega
      have j1 : (k : Int) < (l : Int) := by omega
      have j2 : (0 : Int) < (l : Int) := by omega
      have x0 := (HB.out.cell (p := ⟨b2, o2 + 0, none⟩) hb2).trans (hr2 0 (by rw [HCk.out]; exact l1))
      rw [Nat.add_zero] at x0
      have HX0 : Hid ((C.getD k []).getD 0 0 = Hu.leastTo (C.getD k []) 0) := hide rfl
      have HLS := hide (least_step (C.getD k []))
      have HLE : Hid (Hu.leastTo (C.getD k []) l = Hu.lst (C.getD k [])) := hide (by rw [Hu.lst, HCk.out])
      generalize C.getD k [] = r at *
      generalize r.getD 0 0 = y0 at x0 HX0
      clear R1 r0 hr2
      go_wp2_with fail
      go_loop [7, 9, 27] (fun s7 _ s => ∃ (j : Nat) (y : Int), s = .int .i64 j ∧ s7 = .int .i64 y ∧ j ≤ l ∧ Hid (y = Hu.leastTo r j)) (fun _ _ s => l - (intOf s).toNat)
      case atStart => exact ⟨0, y0, rfl, rfl, Nat.zero_le _, HX0⟩
      case round =>
        obtain ⟨j, y, rfl, rfl, hj, HY⟩ := hrel
        by_cases hjl : j < l
        · have r2 := (HB.out.cell (p := ⟨b2, o2 + j, none⟩) hb2).trans (HR2.out j (by rw [HCk.out]; exact hjl))
          have t0 : (0 : Int) ≤ (j : Int) := by omega
          have t1 : (j : Int) < (l : Int) := by omega
          have HY1 : Hid (min y (r.getD j 0) = Hu.leastTo r (j + 1)) := hide (by rw [HY.out]; exact HLS.out j)
          generalize r.getD j 0 = x at *
          by_cases hxy : x < y
          · have HY2 : Hid (x = Hu.leastTo r (j + 1)) := hide (by rw [← HY1.out]; omega)
            clear HY1
            go_wp2_with fail
            go_round
            case rel => exact ⟨j + 1, x, by go_num, rfl, by omega, HY2⟩
            case measure => simp only [intOf]; omega
          · have HY2 : Hid (y = Hu.leastTo r (j + 1)) := hide (by rw [← HY1.out]; omega)
            clear HY1
            go_wp2_with fail
            go_round
            case rel => exact ⟨j + 1, y, by go_num, rfl, by omega, HY2⟩
            case measure => simp only [intOf]; omega
        · have hje : j = l := by omega
          subst hje
          have HZ := hide (HY.out.trans HLE.out)
          have bz2 := bz.out
          rw [← HZ.out] at bz2
          have HSN9 := hide fun (t : Nat) (ht : t < j) => redR_snoc r (show t < r.length by rw [HCk.out]; exact ht)
          have hwrs := HB.out.size
          go_wp2_with fail
          go_loopw [10, 12, 38] (fun v _ s wi => ∃ (t : Nat), s = .int .i64 t ∧ t ≤ j ∧ Hid (wi.ownsRow wr.heap.size 3 1 v t (ints ((Hu.redR r).take t))) ∧ Hid (t = 0 ∨ ∃ g cap, v = .slice (some ⟨g, 0, none⟩) t cap) ∧ Hid (Below wr.heap.size wr wi)) (fun _ _ s _ => j - (intOf s).toNat)
          case atStart => exact ⟨0, rfl, Nat.zero_le _, hide (World.ownsRow_nil _ _ _ _), hide (Or.inl rfl), hide (Below.refl _ _)⟩
          case round =>
            obtain ⟨t, rfl, ht, HO, HF, HBi⟩ := hrel
            by_cases htl : t < j
            · have r2 := (HBi.out.cell (p := ⟨b2, o2 + t, none⟩) (by show b2 < _; omega)).trans ((HB.out.cell (p := ⟨b2, o2 + t, none⟩) hb2).trans (HR2.out t (by rw [HCk.out]; exact htl)))
              have t0 : (0 : Int) ≤ (t : Int) := by omega
              have t1 : (t : Int) < (j : Int) := by omega
              have bx := Pf.inB_yes (Pf.allB_get HAL.out (show t < r.length by rw [HCk.out]; exact htl))
              have HS9 := hide (HSN9.out t htl)
              rw [← HZ.out] at HS9
              generalize r.getD t 0 = x at *
              obtain ⟨g3, cap3, w3, hr3, own3, hg3, _⟩ := push_9 (t := 25) (x := .int .i64 (x - y)) Try.underlying25 infoI rfl rfl (by decide) HO.out (by omega) HBi.out.size
              have HO3 : Hid (w3.ownsRow _ 3 1 (.slice (some ⟨g3, 0, none⟩) (t + 1) cap3) (t + 1) (ints ((Hu.redR r).take (t + 1)))) := hide (by rw [← HS9.out, ints_snoc]; exact own3)
              have HB3 := hide (HBi.out.trans (((below_new _ (.cells #[.int .i64 (x - y)] 3)).mono HBi.out.size).trans (grown_under' hg3 (HO.out.alloc _) (Nat.le_refl _) (by have := HBi.out.size; simp; omega))))
              clear own3 hg3
              go_wp2_with (first | (at_builtin; refine Lib.wpList_append_run _ rfl _ _ _ _ rfl _ _ rfl rfl _ _ (hr3 _) ?_))
              go_roundw
              case rel => exact ⟨t + 1, by go_num, by omega, HO3, hide (Or.inr ⟨_, _, rfl⟩), HB3⟩
              case measure => simp only [intOf]; omega
            · have hte : t = j := by omega
              subst hte
              obtain ⟨g, cap, rfl⟩ : ∃ g cap, u10 = .slice (some ⟨g, 0, none⟩) t cap := HF.out.resolve_left (by omega)
              have HO' : Hid (wr.ownsRow _ 3 1 (rv9 t (g, cap)) t (ints (Hu.redR r))) := hide (by
                have := HO.out
                rwa [List.take_of_length_le (by rw [Hu.redR_len, HCk.out]; omega)] at this)
              obtain ⟨G4, C4, w4, hr4, own4, hg4, hat4⟩ := push_9 (t := 23) (x := .slice (some ⟨g, 0, none⟩) t cap) Try.underlying23 infoIs rfl rfl (by decide) (g_own HS.out.2.2.1 HBi.out) (by omega) (Nat.le_trans hwrs HBi.out.size)
              obtain ⟨sn1, sn2⟩ := HS.out.snoc HBi.out hwrs HO'.out (by rw [Hu.redR_len, HCk.out]) own4 hg4 hat4
              rw [HSN.out] at sn1
              have HN4 := hide sn1
              have HB4 := hide (HB.out.trans sn2)
              clear own4 hg4 hat4 sn1 sn2 HO HO'
              go_wp2_with (first | (at_builtin; refine Lib.wpList_append_run _ rfl _ _ _ _ rfl _ _ rfl rfl _ _ (hr4 _) ?_))
              go_roundw
              case rel => exact ⟨k + 1, _, by go_num, by omega, HN4, hide (Or.inr ⟨_, _, rfl⟩), HB4⟩
              case measure => simp only [intOf]; omega
    · have hke : k = l := by omega
      subst hke
      obtain ⟨G, D, rfl⟩ : ∃ G D, u4 = .slice (some ⟨G, 0, none⟩) k D := HV.out.resolve_left (by omega)
      have HR : Hid (CRow wr (some ⟨G, 0, none⟩) (Hu.redL C)) := hide (by
        have := HS.out.row
        rwa [List.take_of_length_le (by rw [HRL.out]; omega)] at this)
      go_wp2_with fail
      go_ret2
      exact ⟨G, D, rfl, HB.out, HR.out⟩
end Go.Proofs.Ytkebaklmkidfoaa
namespace Go.Proofs.Ytkebaklmkidfoaa
open Go.RowKit

theorem NOw9.kp {w w' : World} {base n m c : Nat} {v : Value} {gs : List (Nat × Nat)} {L : List (List Int)} (h : NOw9 w base n m v gs L) (hk : Kp c w w') (hc : c < base) : NOw9 w' base n m v gs L :=
  ⟨h.1, h.2.1, own_kp h.2.2.1 hk hc, fun i hi => ⟨(h.2.2.2.1 i hi).1, own_kp (h.2.2.2.1 i hi).2 hk hc⟩, h.2.2.2.2⟩
/-- One list more, where a cursor that lies ahead has gone on. -/
theorem NOw9.snocK {w w1 w4 : World} {base n m g cap G C c : Nat} {v : Value} {gs : List (Nat × Nat)} {L : List (List Int)} {x : List Int} {o : Obj} (h : NOw9 w base n m v gs L) (hk : Kp c w w1) (hc : c < base) (hbase : base ≤ w.heap.size)
    (own1 : w1.ownsRow w.heap.size 3 1 (rv9 n (g, cap)) n (ints x)) (hx : x.length = n)
    (own4 : w4.ownsRow base 25 1 (.slice (some ⟨G, 0, none⟩) (m + 1) C) (m + 1) (vals9 n gs ++ [rv9 n (g, cap)])) (hg : (w1.alloc o).grownBy w4 v.ownBlock) (hat : v.ownBlock = some G ∨ G = w1.heap.size + 1) :
    NOw9 w4 base n (m + 1) (.slice (some ⟨G, 0, none⟩) (m + 1) C) (gs ++ [(g, cap)]) (L ++ [x]) := by
  obtain ⟨g0, g1⟩ := own1.lt g rfl
  have hsz := hk.size
  have hv : ∀ k, v.ownBlock = some k → base ≤ k ∧ k < w.heap.size := h.2.2.1.lt
  have old : ∀ b, b < w1.heap.size → some b ≠ v.ownBlock → w4.heap[b]? = w1.heap[b]? := fun b h1 h2 => by
    rw [hg.block b (by simp; omega) h2]
    exact (Below.heap_alloc w1 o b h1)
  have hgv : some g ≠ v.ownBlock := fun e => by have := hv g e.symm; omega
  refine ⟨by simp [h.1], by simp [h.2.1], by rw [vals9_snoc]; exact own4, fun i hi => ?_, ?_, ?_⟩
  · by_cases e : i = m
    · subst e
      have e1 : (L ++ [x]).getD i [] = x := by simp [← h.2.1]
      have e2 : (gs ++ [(g, cap)]).getD i (0, 0) = (g, cap) := by simp [← h.1]
      rw [e1, e2]
      exact ⟨hx, own_at9 (owns_low own1 hbase) (old g g1 hgv)⟩
    · have hi' : i < m := by omega
      have e1 : (L ++ [x]).getD i [] = L.getD i [] := by simp [List.getElem?_append, h.2.1, hi']
      have e2 : (gs ++ [(g, cap)]).getD i (0, 0) = gs.getD i (0, 0) := by simp [List.getElem?_append, h.1, hi']
      rw [e1, e2]
      have hm := h.at_mem hi'
      have hlt := h.lt hm
      refine ⟨(h.2.2.2.1 i hi').1, own_at9 (own_kp (h.2.2.2.1 i hi').2 hk hc) (old _ (by omega) fun e => ?_)⟩
      exact h.2.2.2.2.2 _ e.symm hm
  · rw [List.map_append, List.nodup_append]
    refine ⟨h.2.2.2.2.1, by simp, fun a ha b hb' => ?_⟩
    simp at hb'
    have := h.lt ha
    omega
  · intro k hk
    simp only [Value.ownBlock, Option.some.injEq] at hk
    subst hk
    rw [List.map_append, List.mem_append]
    rintro (hm | hm)
    · rcases hat with e | e
      · exact h.2.2.2.2.2 _ e hm
      · have := h.lt hm; omega
    · simp at hm
      rcases hat with e | e
      · rw [hm] at e; exact hgv e.symm
      · omega
/-- The first number of the first list is another. -/
theorem NOw9.put {w : World} {base n m G D : Nat} {gs : List (Nat × Nat)} {L : List (List Int)} (h : NOw9 w base n m (.slice (some ⟨G, 0, none⟩) m D) gs L) (hm : 0 < m) (z : Int) :
    NOw9 (w.setCell ⟨(gs.getD 0 (0, 0)).1, 0, none⟩ (.int .i64 z)) base n m (.slice (some ⟨G, 0, none⟩) m D) gs (L.set 0 ((L.getD 0 []).set 0 z)) := by
  have own0 : w.ownsRow base 3 1 (.slice (some ⟨(gs.getD 0 (0, 0)).1, 0, none⟩) n (gs.getD 0 (0, 0)).2) n (ints (L.getD 0 [])) := (h.2.2.2.1 0 hm).2
  obtain ⟨st1, st2⟩ := own0.stored 0 (.int .i64 z)
  rw [ints_set] at st1
  have hb0 : ∀ b, b < w.heap.size → b ≠ (gs.getD 0 (0, 0)).1 → (w.setCell ⟨(gs.getD 0 (0, 0)).1, 0, none⟩ (.int .i64 z)).heap[b]? = w.heap[b]? := fun b hb hne => st2.block b hb (fun e => hne (by simpa [Value.ownBlock] using e))
  have hG : G ≠ (gs.getD 0 (0, 0)).1 := fun e => h.2.2.2.2.2 G rfl (e ▸ h.at_mem hm)
  refine ⟨h.1, by simpa using h.2.1, own_at9 h.2.2.1 (hb0 G (h.2.2.1.lt G rfl).2 hG), fun i hi => ?_, h.2.2.2.2⟩
  by_cases e : i = 0
  · subst e
    have e1 : (L.set 0 ((L.getD 0 []).set 0 z)).getD 0 [] = (L.getD 0 []).set 0 z := by simp [show 0 < L.length by have := h.2.1; omega]
    rw [e1]
    exact ⟨by simpa using (h.2.2.2.1 0 hi).1, st1⟩
  · have e1 : (L.set 0 ((L.getD 0 []).set 0 z)).getD i [] = L.getD i [] := by simp [Ne.symm e]
    rw [e1]
    have hne := nodup_ne9 h.2.2.2.2.1 (show i < gs.length by rw [h.1]; exact hi) (show 0 < gs.length by rw [h.1]; exact hm) e
    exact ⟨(h.2.2.2.1 i hi).1, own_at9 (h.2.2.2.1 i hi).2 (hb0 _ (h.lt (h.at_mem hi)).2 hne)⟩
theorem NOw9.any {w : World} {base n m : Nat} {v : Value} {gs : List (Nat × Nat)} {L : List (List Int)} (h : NOw9 w base n m v gs L) : ∃ a c, v = .slice a m c ∧ CRow w a L := by
  by_cases h0 : m = 0
  · obtain ⟨a, c, rfl⟩ := own_form h.2.2.1
    exact ⟨a, c, rfl, Or.inl (List.length_eq_zero_iff.1 (h.2.1.trans h0))⟩
  · obtain ⟨g, cap, rfl, _, _⟩ := own_some h.2.2.1 h0
    exact ⟨_, _, rfl, h.row⟩
def CTPost (w : World) (c : Nat) (a : Option Addr) (len cap M : Nat) (e : Ending) (w' : World) : Prop :=
  ∃ v n gs C, e = .returned v ∧ n ≤ 11 ∧ NOw9 w' w.heap.size n n v gs C ∧ Cur w' c a len cap M ∧ Kp c w w'
theorem set_ne9 {w : World} {G o P i : Nat} {u : Value} (h : G ≠ P) : (w.setCell ⟨G, o, none⟩ u).cell? ⟨P, i, none⟩ = w.cell? ⟨P, i, none⟩ := World.cell?_setCell_other _ _ _ _ (fun e => h (by injection e))
set_option maxRecDepth 20000 in
set_option maxHeartbeats 4000000 in
theorem costs_any {c len cap N : Nat} {a : Option Addr} {w : World} (hc : Cur w c a len cap N) (hN : N ≤ 700000000) :
    Calls Try.prog 39 #[.pointer (some ⟨c, 0, none⟩)] w (CTPost w c a len cap (N + 500)) := by
  have hcw := hc.1
  have HOLD := hide hc.old
  have HC := hide hc
  clear hc
  go_enter Try.func39, Try.ntmps39
  go_wp2_with fail
  refine (pick_any 5 (by omega) HC.out (by omega)).mono ?_
  rintro e w1 ⟨r1, rfl, p0, p1, hc1, hk1⟩
  have HC1 := hide hc1
  have HK1 := hide hk1
  clear hc1 hk1
  go_upto_if 12 with (go_at_call 42; refine (one_any 20 (by omega) HC1.out (by omega)).mono ?_; rintro e w3 ⟨r3, rfl, hc3, hk3⟩; have HC3 := hide hc3; have HK3 := hide (HK1.out.trans hk3); clear hc3 hk3)
  go_cut [3] (fun s3 wc => ∃ k : Nat, s3 = .int .i64 k ∧ k ≤ 11 ∧ Hid (Cur wc c a len cap (N + 8)) ∧ Hid (Kp c w wc))
  case first =>
    cases r3
    · go_wp2_with fail
      go_meet
      case rel => exact ⟨(1 + r1).toNat, by congr 1; omega, by omega, hide (HC3.out.le (by omega)), HK3⟩
    · go_wp2_with fail
      refine (amongB_any (lo := 0) (hi := 11) (HC3.out.below (below_alloc w3 _)) (by omega) (by omega) (by omega) (by simp) (by have := HC3.out.1; omega) (three_cells w3 _ (by omega) (by omega) (by omega))).mono ?_
      rintro e w4 ⟨z, rfl, z0, z1, hc4, hk4⟩
      have HK4 := hide ((HK3.out.alloc _).trans hk4)
      have HC4 := hide hc4
      clear hc4 hk4
      go_wp2_with fail
      go_meet
      case rel => exact ⟨z.toNat, by congr 1; omega, by omega, hide (HC4.out.le (by omega)), HK4⟩
  case rest =>
    obtain ⟨n, rfl, hn, HC4, HK4⟩ := hcut
    go_wp2_with fail
    go_loopw [4, 5, 6, 7] (fun v s _ _ wr => ∃ (i : Nat) (gs : List (Nat × Nat)) (L : List (List Int)), s = .int .i64 i ∧ i ≤ n ∧ Hid (NOw9 wr w.heap.size n i v gs L) ∧ Hid (Cur wr c a len cap (N + 8 + 24 * i)) ∧ Hid (Kp c w wr)) (fun _ s _ _ _ => n - (intOf s).toNat)
    case atStart => exact ⟨0, [], [], rfl, Nat.zero_le _, hide (NOw9.nil _ _ _), hide (HC4.out.le (by simp)), HK4⟩
    case round =>
      obtain ⟨i, gs, L, rfl, hi, HF, HCR, HKR⟩ := hrel
      by_cases hin : i < n
      · have k1 : (i : Int) < (n : Int) := by omega
        obtain ⟨W1, hW1⟩ : ∃ W1 : World, W1 = wr := ⟨_, rfl⟩
        subst hW1
        go_wp2_with fail
        go_loopw [6, 7] (fun u s wr => ∃ (j : Nat) (rs : List Int), s = .int .i64 j ∧ j ≤ n ∧ rs.length = j ∧ Hid (wr.ownsRow W1.heap.size 3 1 u j (ints rs)) ∧ Hid (Cur wr c a len cap (N + 8 + 24 * i + 2 * j)) ∧ Hid (Kp c W1 wr)) (fun _ s _ => n - (intOf s).toNat)
        case atStart => exact ⟨0, [], rfl, Nat.zero_le _, rfl, hide (World.ownsRow_nil _ _ _ _), hide (HCR.out.le (by omega)), hide (Kp.refl _ _)⟩
        case round =>
          obtain ⟨j, rs, rfl, hj, hrs, HU, HCJ, HKJ⟩ := hrel
          have hsW := HKR.out.size
          have hcW : c < W1.heap.size := by omega
          by_cases hjm : j < n
          · have j1 : (j : Int) < (n : Int) := by omega
            go_wp2_with fail
            refine (pick_any 12 (by omega) HCJ.out (by omega)).mono ?_
            rintro e w3 ⟨r3, rfl, q0, q1, hc3, hk3⟩
            have own3 := own_kp HU.out hk3 hcW
            have HK3 := hide (HKJ.out.trans hk3)
            have HC3 := hide hc3
            obtain ⟨v4, w4, hr4, own4, hg4⟩ := push_int (x := r3) own3 (by omega) HK3.out.size
            rw [← ints_snoc] at own4
            have HO4 := hide own4
            have HK4' := hide (kp_push HK3.out own3 hg4)
            have HC4' := hide (cur_push HC3.out hcW (fun b off e hl => by have := HOLD.out b off e hl; omega) HK3.out.size own3 hg4)
            clear hc3 hk3 own3 own4 hg4 HU HCJ HKJ
            go_wp2_with (first | (at_builtin; refine Lib.wpList_append_run _ rfl _ _ _ _ rfl _ _ rfl rfl _ _ (hr4 _) ?_))
            go_roundw
            case rel => exact ⟨j + 1, rs ++ [r3], by go_num, by omega, by simp [hrs], HO4, hide (HC4'.out.le (by omega)), HK4'⟩
            case measure => simp only [intOf]; omega
          · have j1 : ¬ (j : Int) < (n : Int) := by omega
            have hje : j = n := by omega
            subst hje
            obtain ⟨g, cu, hu, _, _⟩ := own_some HU.out (by omega)
            subst hu
            have hkk := HKR.out.trans HKJ.out
            have ownF := own_kp HF.out.2.2.1 HKJ.out hcw
            obtain ⟨G4, C4, w4, hr4, own4, hg4, hat4⟩ := push_9 (t := 23) (x := .slice (some ⟨g, 0, none⟩) j cu) Try.underlying23 infoIs rfl rfl (by decide) ownF (by omega) hkk.size
            have HN4 := hide (HF.out.snocK HKJ.out hcw hsW HU.out hrs own4 hg4 hat4)
            have HK5 := hide (kp_push (hkk.alloc (.cells #[.slice (some ⟨g, 0, none⟩) j cu] 25)) (ownF.alloc _) hg4)
            have HC5 := hide (cur_push (HCJ.out.below (below_alloc _ (.cells #[.slice (some ⟨g, 0, none⟩) j cu] 25))) hcw HOLD.out (hkk.alloc (.cells #[.slice (some ⟨g, 0, none⟩) j cu] 25)).size (ownF.alloc _) hg4)
            clear own4 hg4 hat4 hkk ownF HU
            go_wp2_with (first | (at_builtin; refine Lib.wpList_append_run _ rfl _ _ _ _ rfl _ _ rfl rfl _ _ (hr4 _) ?_))
            go_roundw
            case rel => exact ⟨i + 1, _, _, by go_num, by omega, HN4, hide (HC5.out.le (by omega)), HK5⟩
            case measure => simp only [intOf]; omega
      · have hie : i = n := by omega
        subst hie
        have k1 : ¬ (i : Int) < (i : Int) := by omega
        by_cases h0 : i = 0
        · subst h0
          obtain ⟨av, cv, hu⟩ := own_form HF.out.2.2.1
          subst hu
          go_wp2_with fail
          go_ret
          exact ⟨_, 0, gs, L, rfl, by omega, HF.out, HCR.out.le (by omega), HKR.out⟩
        · have z1 : (0 : Int) < (i : Int) := by omega
          obtain ⟨G, cv, hu, hG0, hG1⟩ := own_some HF.out.2.2.1 h0
          subst hu
          go_wp2_with fail
          refine (one_any 30 (by omega) HCR.out (by omega)).mono ?_
          rintro e w3 ⟨r3, rfl, hc3, hk3⟩
          have HF3 := hide (HF.out.kp hk3 hcw)
          have HC3 := hide hc3
          have HK3 := hide (HKR.out.trans hk3)
          have hs3 := HK3.out.size
          clear hc3 hk3 HF HCR HKR
          cases r3
          · go_wp2_with fail
            go_ret
            exact ⟨_, i, gs, L, rfl, hn, HF3.out, HC3.out.le (by omega), HK3.out⟩
          · have t0 := HF3.out.outer (i := 0) (by omega)
            have hGn : G ≠ (gs.getD 0 (0, 0)).1 := fun e => HF3.out.2.2.2.2.2 G rfl (e ▸ HF3.out.at_mem (by omega))
            have hgl := HF3.out.lt (HF3.out.at_mem (i := 0) (by omega))
            have hG3 := (HF3.out.2.2.1.lt G rfl).2
            have HO0 : Hid (∀ W, Kp c w3 W → W.ownsRow w.heap.size 3 1 (.slice (some ⟨(gs.getD 0 (0, 0)).1, 0, none⟩) i (gs.getD 0 (0, 0)).2) i (ints (L.getD 0 []))) := hide fun W hW => own_kp (HF3.out.2.2.2.1 0 (by omega)).2 hW hcw
            have HFP : Hid (∀ W z, Kp c w3 W → NOw9 (W.setCell ⟨(gs.getD 0 (0, 0)).1, 0, none⟩ (.int .i64 z)) w.heap.size i i (.slice (some ⟨G, 0, none⟩) i cv) gs (L.set 0 ((L.getD 0 []).set 0 z))) := hide fun W z hW => (HF3.out.kp hW hcw).put (by omega) z
            have HL0 : Hid (0 < (L.getD 0 []).length) := hide (by rw [(HF3.out.2.2.2.1 0 (by omega)).1]; omega)
            unfold rv9 at t0
            generalize (gs.getD 0 (0, 0)).1 = g at *
            generalize (gs.getD 0 (0, 0)).2 = cg at *
            have HCD : Hid (Cur (w3.drew.alloc (.cells #[.int .i64 (-1), .int .i64 100, .int .i64 101] 3)) c a len cap (N + 8 + 24 * i + 2)) := hide ((HC3.out.blocks (w' := w3.drew) (Nat.le_refl _) rfl (fun _ _ _ _ => rfl)).below (below_alloc _ _))
            have tA : ∀ o, (w3.drew.alloc o).cell? ⟨G, 0, none⟩ = some (.slice (some ⟨g, 0, none⟩) i cg) := fun o => ((below_alloc w3.drew o).cell (p := ⟨G, 0, none⟩) hG3).trans t0
            have hcw5 : w3.drew.heap.size ≠ c := by have : w3.drew.heap.size = w3.heap.size := rfl; omega
            have hGc : G ≠ c := by omega
            go_upto_region 15 with fail
            go_region_held3 (fun w' => w'.cell? ⟨G, 0, none⟩ = some (.slice (some ⟨g, 0, none⟩) i cg))
              (first | exact t0 | assumption | exact tA _ | exact tS _ | fail)
              (first
              | (go_at_call 44; refine (amongB_any (lo := -1) (hi := 101) HCD.out (by omega) (by omega) (by omega) (by simp) hcw5 (three_cells w3.drew _ (by omega) (by omega) (by omega))).mono ?_; rintro e w6 ⟨z, rfl, z0, z1, hc6, hk6⟩; have hk6' : Kp c w3 w6 := (by have h := ((Kp.refl c w3.drew).alloc (.cells #[.int .i64 (-1), .int .i64 100, .int .i64 101] 3)).trans hk6; exact ⟨h.os, h.tape, h.output, h.size, h.block⟩); have t6 := (hk6'.cell (o := 0) hG3 hGc).trans t0; have tS : ∀ u, (w6.setCell ⟨g, 0, none⟩ u).cell? ⟨G, 0, none⟩ = some (.slice (some ⟨g, 0, none⟩) i cg) := fun u => (set_ne9 (Ne.symm hGn)).trans t6; have own6 := HO0.out _ hk6'; have c6 : w6.cell? ⟨g, 0, none⟩ = some (.int .i64 ((L.getD 0 []).getD 0 0)) := (by rw [own6.cellAt 0 (by omega), ints_get _ 0 HL0.out]); have f6 := own6.frozenAt 0; have HC6 := hide hc6; have HK6 := hide hk6'; clear hc6 hk6 hk6')
              | fail)
            all_goals
              have FIN := hide (HFP.out _ z HK6.out)
              have HK7 := hide (kp_set (o := 0) (v := .int .i64 z) (HK3.out.trans HK6.out) hgl.1)
              have HC7 := hide (cur_set (o := 0) (v := .int .i64 z) HC6.out hcw HOLD.out hgl.1)
              clear own6 c6 f6 tS t6 tA t0
              generalize w6.setCell ⟨g, 0, none⟩ (.int .i64 z) = w7 at *
              go_wp2_with fail
              go_ret
              exact ⟨_, i, gs, _, rfl, hn, FIN.out, HC7.out.le (by omega), HK7.out⟩
end Go.Proofs.Ytkebaklmkidfoaa
namespace Go.Proofs.Ytkebaklmkidfoaa
open Go.RowKit

set_option maxRecDepth 100000 in
set_option maxHeartbeats 400000 in
theorem sm9_zero (a b : Option Addr) (c d : Nat) (w : World) :
    Calls Try.prog 8 #[.slice a 0 c, .slice b 0 d] w fun e w' => e = .returned (.bool true) ∧ w' = w := by
  go_enter Try.func8, Try.ntmps8
  go_wp2_with fail
  go_loop [13] (fun s => s = .int .i64 0) (fun s => 0)
  case atStart => rfl
  case round =>
    subst hrel
    go_wp2_with fail
    go_ret
    exact ⟨rfl, rfl⟩
set_option maxRecDepth 100000 in
set_option maxHeartbeats 1000000 in
theorem sm9_some (xs : List Int) (b o c b' o' c' : Nat) (w : World) (hl : xs.length ≤ 4000000000000) (h1 : ∀ i, i < xs.length → w.cell? ⟨b, o + i, none⟩ = some (.int .i64 (xs.getD i 0))) (h2 : ∀ i, i < xs.length → w.cell? ⟨b', o' + i, none⟩ = some (.int .i64 (xs.getD i 0))) :
    Calls Try.prog 8 #[.slice (some ⟨b, o, none⟩) xs.length c, .slice (some ⟨b', o', none⟩) xs.length c'] w fun e w' => e = .returned (.bool true) ∧ ∃ m, w' = w.drewN m := by
  have hne : ((xs.length : Int) != (xs.length : Int)) = false := by simp
  have H1 := hide h1
  have H2 := hide h2
  clear h1 h2
  go_enter Try.func8, Try.ntmps8
  go_wp2_with fail
  go_loopw [13] (fun s wr => ∃ k : Nat, s = .int .i64 k ∧ k ≤ xs.length ∧ ∃ m, wr = w.drewN m) (fun s _ => xs.length - (intOf s).toNat)
  case atStart => exact ⟨0, rfl, Nat.zero_le _, 0, rfl⟩
  case round =>
    obtain ⟨k, rfl, hk, m, rfl⟩ := hrel
    by_cases hlt : k < xs.length
    · have r1 := H1.out k hlt
      have r2 := H2.out k hlt
      have i0 : (0 : Int) ≤ (k : Int) := by omega
      have i1 : (k : Int) < (xs.length : Int) := by omega
      generalize xs.getD k 0 = x at *
      have hxx : (x != x) = false := by simp
      go_wp2_with fail
      go_region
      go_wp2_with fail
      exact ⟨⟨k + 1, by go_num, by omega, m + 1, rfl⟩, by simp only [intOf]; omega⟩
    · go_wp2_with fail
      go_ret
      exact ⟨rfl, m, rfl⟩
theorem sm9 {a b : Option Addr} {c d n : Nat} {xs : List Int} {w : World} (hn : Hid (xs.length = n)) (hl : n ≤ 1048576) (h1 : ARow w a xs) (h2 : ARow w b xs) :
    Calls Try.prog 8 #[.slice a n c, .slice b n d] w fun e w' => e = .returned (.bool true) ∧ Below w.heap.size w w' := by
  have := hn.out
  subst this
  rcases h1 with rfl | ⟨b1, o1, rfl, hb1, c1⟩
  · exact (sm9_zero a b c d w).mono fun e w' ⟨h, hw⟩ => ⟨h, hw ▸ Below.refl _ _⟩
  · rcases h2 with rfl | ⟨b2, o2, rfl, hb2, c2⟩
    · exact (sm9_zero _ b c d w).mono fun e w' ⟨h, hw⟩ => ⟨h, hw ▸ Below.refl _ _⟩
    · exact (sm9_some xs b1 o1 c b2 o2 d w (by omega) c1 c2).mono fun e w' ⟨h, m, hw⟩ => ⟨h, hw ▸ below_drewN (Below.refl _ _) m⟩
set_option maxRecDepth 100000 in
set_option maxHeartbeats 2000000 in
theorem smp9 {a b a' b' : Option Addr} {n m c d c' d' : Nat} {ps fs : List Int} {w : World} (hn : Hid (ps.length = n)) (hm : Hid (fs.length = m)) (h1 : n ≤ 1048576) (h2 : m ≤ 1048576) (ha : ARow w a ps) (hb : ARow w b fs) (ha' : ARow w a' ps) (hb' : ARow w b' fs) :
    Calls Try.prog 9 #[.agg #[.slice a n c, .slice b m d], .agg #[.slice a' n c', .slice b' m d']] w fun e w' => e = .returned (.bool true) ∧ Below w.heap.size w w' := by
  have HA := hide ((ha.alloc (.cells #[.slice a n c, .slice b m d] 27)).alloc (.cells #[.slice a' n c', .slice b' m d'] 27))
  have HB := hide ((hb.alloc (.cells #[.slice a n c, .slice b m d] 27)).alloc (.cells #[.slice a' n c', .slice b' m d'] 27))
  have HA' := hide ((ha'.alloc (.cells #[.slice a n c, .slice b m d] 27)).alloc (.cells #[.slice a' n c', .slice b' m d'] 27))
  have HB' := hide ((hb'.alloc (.cells #[.slice a n c, .slice b m d] 27)).alloc (.cells #[.slice a' n c', .slice b' m d'] 27))
  have c0 : ((w.alloc (.cells #[.slice a n c, .slice b m d] 27)).alloc (.cells #[.slice a' n c', .slice b' m d'] 27)).cell? ⟨w.heap.size, 1, none⟩ = some (.slice b m d) := by simp
  have c1 : ((w.alloc (.cells #[.slice a n c, .slice b m d] 27)).alloc (.cells #[.slice a' n c', .slice b' m d'] 27)).cell? ⟨w.heap.size + 1, 1, none⟩ = some (.slice b' m d') := by simp
  have c2 : ((w.alloc (.cells #[.slice a n c, .slice b m d] 27)).alloc (.cells #[.slice a' n c', .slice b' m d'] 27)).cell? ⟨w.heap.size, 0, none⟩ = some (.slice a n c) := by simp
  have c3 : ((w.alloc (.cells #[.slice a n c, .slice b m d] 27)).alloc (.cells #[.slice a' n c', .slice b' m d'] 27)).cell? ⟨w.heap.size + 1, 0, none⟩ = some (.slice a' n c') := by simp
  have hB := ((Below.refl w.heap.size w).alloc (Nat.le_refl _) (.cells #[.slice a n c, .slice b m d] 27)).alloc (by simp) (.cells #[.slice a' n c', .slice b' m d'] 27)
  have hs : ((w.alloc (.cells #[.slice a n c, .slice b m d] 27)).alloc (.cells #[.slice a' n c', .slice b' m d'] 27)).heap.size = w.heap.size + 2 := by simp
  obtain ⟨W, hW⟩ : ∃ W, W = (w.alloc (.cells #[.slice a n c, .slice b m d] 27)).alloc (.cells #[.slice a' n c', .slice b' m d'] 27) := ⟨_, rfl⟩
  rw [← hW] at HA HB HA' HB' c0 c1 c2 c3 hB hs
  have HW := hide hW.symm
  have HBW := hide hB
  have HS := hide hs
  clear ha hb ha' hb' hW hB hs
  go_enter Try.func9, Try.ntmps9
  go_upto_region 1 with fail
  rw [HW.out]
  clear HW
  go_wp2_with fail
  refine (sm9 hn h1 HA.out HA'.out).mono ?_
  rintro e w1 ⟨rfl, hb1⟩
  have HB1 := hide (HB.out.below hb1)
  have HB1' := hide (HB'.out.below hb1)
  have d0 := (hb1.cell (p := ⟨w.heap.size, 1, none⟩) (by show w.heap.size < _; have := HS.out; omega)).trans c0
  have d1 := (hb1.cell (p := ⟨w.heap.size + 1, 1, none⟩) (by show w.heap.size + 1 < _; have := HS.out; omega)).trans c1
  have HBB := hide (HBW.out.trans (hb1.mono HBW.out.size))
  clear hb1 c0 c1 c2 c3
  go_wp2_with fail
  refine (sm9 hm h2 HB1.out HB1'.out).mono ?_
  rintro e w2 ⟨rfl, hb2⟩
  have HBC := hide (HBB.out.trans (hb2.mono HBB.out.size))
  clear hb2
  go_wp2_with fail
  go_ret
  exact ⟨rfl, HBC.out⟩
set_option maxRecDepth 100000 in
set_option maxHeartbeats 400000 in
theorem smr9_zero (a b : Option Addr) (c d : Nat) (w : World) :
    Calls Try.prog 24 #[.slice a 0 c, .slice b 0 d] w fun e w' => e = .returned (.bool true) ∧ w' = w := by
  go_enter Try.func24, Try.ntmps24
  go_wp2_with fail
  go_loop [13] (fun s => s = .int .i64 0) (fun s => 0)
  case atStart => rfl
  case round =>
    subst hrel
    go_wp2_with fail
    go_ret
    exact ⟨rfl, rfl⟩
set_option maxRecDepth 100000 in
set_option maxHeartbeats 2000000 in
theorem smr9 {ba oa bb ob n c d : Nat} {F : List (List Int)} {w : World} (hn : Hid (F.length = n)) (hn' : n ≤ 1048576) (hl : Hid (∀ i, i < n → (F.getD i []).length ≤ 1048576)) (h1 : CRow w (some ⟨ba, oa, none⟩) F) (h2 : CRow w (some ⟨bb, ob, none⟩) F) :
    Calls Try.prog 24 #[.slice (some ⟨ba, oa, none⟩) n c, .slice (some ⟨bb, ob, none⟩) n d] w fun e w' => e = .returned (.bool true) ∧ Below w.heap.size w w' := by
  have hne : ((n : Int) != (n : Int)) = false := by simp
  have H1 := hide h1
  have H2 := hide h2
  clear h1 h2
  go_enter Try.func24, Try.ntmps24
  go_wp2_with fail
  go_loopw [5, 13] (fun _ s wr => ∃ k : Nat, s = .int .i64 k ∧ k ≤ n ∧ Hid (Below w.heap.size w wr)) (fun _ s _ => n - (intOf s).toNat)
  case atStart => exact ⟨0, rfl, Nat.zero_le _, hide (Below.refl _ _)⟩
  case round =>
    obtain ⟨k, rfl, hk, HB⟩ := hrel
    by_cases hlt : k < n
    · obtain ⟨b, off, a1, c1, e1, hb, r1, R1⟩ := (H1.out.below HB.out).at (i := k) (by rw [hn.out]; exact hlt)
      cases e1
      obtain ⟨b', off', a2, c2, e2, hb', r2, R2⟩ := (H2.out.below HB.out).at (i := k) (by rw [hn.out]; exact hlt)
      cases e2
      have hln := hl.out k hlt
      have hcall := hide (fun (w' : World) (hb : Below wr.heap.size wr w') => sm9 (c := c1) (d := c2) (hide rfl) hln (R1.below hb) (R2.below hb))
      generalize (F.getD k []).length = m at *
      have k0 : (0 : Int) ≤ (k : Int) := by omega
      have k1 : (k : Int) < (n : Int) := by omega
      clear R1 R2
      go_wp2_with fail
      go_region_held3 (fun w' => w'.cell? ⟨ba, oa + k, none⟩ = some (.slice a1 m c1) ∧ w'.cell? ⟨bb, ob + k, none⟩ = some (.slice a2 m c2) ∧ Below wr.heap.size wr w' ∧ wr.heap.size ≤ w'.heap.size)
        (first | exact ⟨r1, r2, (Below.refl _ _).drew, Nat.le_refl _⟩ | assumption | exact two_call8 hb hb' ‹_› (by assumption) | fail)
        (first | (go_at_call 8; obtain ⟨_, _, hbS, _⟩ := ‹_ ∧ _ ∧ _ ∧ _›; refine (hcall.out _ hbS).mono ?_; rintro e w3 ⟨rfl, hb3⟩) | fail)
      obtain ⟨_, _, hbE, _⟩ := ‹_ ∧ _ ∧ _ ∧ _›
      go_wp2_with fail
      go_roundw
      case rel => exact ⟨k + 1, by go_num, by omega, hide (HB.out.trans (hbE.mono HB.out.size))⟩
      case measure => simp only [intOf]; omega
    · go_wp2_with fail
      go_ret
      exact ⟨rfl, HB.out⟩
theorem cur_below9 {w w1 : World} {o : Obj} (hk : Kp w.heap.size (w.alloc o) w1) : Below w.heap.size w w1 :=
  ((Below.refl w.heap.size w).alloc (Nat.le_refl _) o).trans (hk.below (Nat.le_refl _) (by simp))
def CGPost (w : World) (e : Ending) (w' : World) : Prop := ∃ ao co, ∃ C : List (List Int), e = .returned (.slice ao C.length co) ∧ C.length ≤ 11 ∧ CRow w' ao C ∧ Below w.heap.size w w'
set_option maxRecDepth 100000 in
set_option maxHeartbeats 1000000 in
theorem drawGC_any {a : Option Addr} {len cap : Nat} {w : World} (hs : Hid (Src w a len)) :
    Calls Try.prog 25 #[.slice a len cap] w (CGPost w) := by
  have HC := hide (cur_new (cap := cap) hs.out)
  go_enter Try.func25, Try.ntmps25
  go_wp2_with fail
  refine (costs_any HC.out (by omega)).mono ?_
  rintro e w1 ⟨v, n, gs, C, rfl, hl, hF, hc1, hk1⟩
  obtain ⟨ao, co, rfl, hr⟩ := hF.any
  have HL := hide hF.2.1
  have HR := hide hr
  have HB := hide (cur_below9 hk1)
  clear hF hr hc1 hk1 HC
  go_wp2_with fail
  go_ret
  exact ⟨ao, co, C, by rw [HL.out]; rfl, by rw [HL.out]; exact hl, HR.out, HB.out⟩
set_option maxRecDepth 100000 in
set_option maxHeartbeats 1000000 in
theorem drawCF_any {a : Option Addr} {len cap : Nat} {w : World} (hs : Hid (Src w a len)) :
    Calls Try.prog 5 #[.slice a len cap] w (CGPost w) := by
  go_enter Try.func5, Try.ntmps5
  go_wp2_with fail
  refine (drawGC_any hs).mono ?_
  rintro e w1 ⟨ao, co, C, rfl, hl, hr, hb⟩
  have HR := hide hr
  have HB := hide hb
  clear hr hb
  go_wp2_with fail
  go_ret
  exact ⟨ao, co, C, rfl, hl, HR.out, HB.out⟩
set_option maxRecDepth 100000 in
set_option maxHeartbeats 1000000 in
theorem drawRR_any {a : Option Addr} {len cap : Nat} {w : World} (hs : Hid (Src w a len)) :
    Calls Try.prog 21 #[.slice a len cap] w (CGPost w) := by
  go_enter Try.func21, Try.ntmps21
  go_wp2_with fail
  refine (drawGC_any hs).mono ?_
  rintro e w1 ⟨ao, co, C, rfl, hl, hr, hb⟩
  have HR := hide hr
  have HB := hide hb
  clear hr hb
  go_wp2_with fail
  go_ret
  exact ⟨ao, co, C, rfl, hl, HR.out, HB.out⟩
def FDPost (w : World) (e : Ending) (w' : World) : Prop := ∃ ao co am cm, ∃ (C : List (List Int)) (os : List Int), e = .returned (.tuple #[.slice ao C.length co, .slice am os.length cm]) ∧ C.length ≤ 11 ∧ os.length ≤ 11 ∧ os.length ≤ cm ∧ CRow w' ao C ∧ ARow w' am os ∧ Below w.heap.size w w'
set_option maxRecDepth 20000 in
set_option maxHeartbeats 4000000 in
theorem drawFC_any {a : Option Addr} {len cap : Nat} {w : World} (hs : Hid (Src w a len)) :
    Calls Try.prog 15 #[.slice a len cap] w (FDPost w) := by
  have HC := hide (cur_new (cap := cap) hs.out)
  go_enter Try.func15, Try.ntmps15
  go_wp2_with fail
  refine (costs_any HC.out (by omega)).mono ?_
  rintro e w1 ⟨v, n, gs, C, rfl, hl, hF, hc1, hk1⟩
  obtain ⟨ao, co, rfl, _⟩ := hF.any
  have HF1 := hide hF
  have HC1 := hide hc1
  have HK1 := hide hk1
  have HL := hide hF.2.1
  clear hF hc1 hk1 HC
  go_wp2_with fail
  refine (order7_any (m := n) HC1.out (by omega) (by omega)).mono ?_
  rintro e w2 ⟨v2, os, rfl, ho, own2, hc2, hk2⟩
  obtain ⟨am, cm, rfl, hcm, r2⟩ := own_cap ho own2
  obtain ⟨ao', co', e1, hr⟩ := (HF1.out.kp hk2 (by simp)).any
  cases e1
  have HR := hide hr
  have HR2 := hide r2
  have HO := hide ho
  have HB := hide (cur_below9 (HK1.out.trans hk2))
  clear own2 hc2 hk2 r2 hr HF1 HC1 HK1 ho
  go_wp2_with fail
  go_ret2
  exact ⟨ao, co, am, cm, C, os, by rw [HL.out, HO.out]; rfl, by rw [HL.out]; exact hl, by rw [HO.out]; exact hl, by rw [HO.out]; exact hcm, HR.out, HR2.out, HB.out⟩
end Go.Proofs.Ytkebaklmkidfoaa
namespace Go.Proofs.Ytkebaklmkidfoaa.Hu

theorem set_get9 (xs : List Int) (k i : Nat) (x : Int) (h : i < xs.length) : (xs.set k x).getD i 0 = if i = k then x else xs.getD i 0 := by
  by_cases e : i = k
  · subst e; simp [h]
  · simp [e, List.getElem?_set_ne (Ne.symm e)]
/-- A row of ten with what a list holds at its front. -/
def pad (xs : List Int) : List Int := tab 10 fun i => xs.getD i 0
theorem pad_len (xs : List Int) : (pad xs).length = 10 := tab_len _ _
theorem pad_get (xs : List Int) {i : Nat} (h : i < 10) : (pad xs).getD i 0 = xs.getD i 0 := tab_get _ h
theorem pad_eq {xs : List Int} (h : xs.length ≤ 10) : xs ++ List.replicate (10 - xs.length) 0 = pad xs := by
  apply List.ext_getElem
  · simp [pad, tab]; omega
  · intro i h1 h2
    simp [pad, tab] at h2
    by_cases hi : i < xs.length
    · simp [pad, tab, hi]
    · simp [pad, tab, List.getElem_append, hi]
/-- Of a load and each bin both prices. -/
def bothAt (us vs : List Int) (i : Nat) (b : Nat) : Int := if b < vs.length then vs.getD b 0 + us.getD i 0 else 0
def bothR (us vs : List Int) (i : Nat) : List Int := tab 10 (bothAt us vs i)
theorem bothR_len (us vs : List Int) (i : Nat) : (bothR us vs i).length = 10 := tab_len _ _
theorem bothR_get (us vs : List Int) (i : Nat) {b : Nat} (h : b < 10) : (bothR us vs i).getD b 0 = bothAt us vs i b := tab_get _ h
def minR (xs ys : List Int) : List Int := tab 10 fun b => min (xs.getD b 0) (ys.getD b 0)
theorem minR_len (xs ys : List Int) : (minR xs ys).length = 10 := tab_len _ _
theorem minR_get (xs ys : List Int) {b : Nat} (h : b < 10) : (minR xs ys).getD b 0 = min (xs.getD b 0) (ys.getD b 0) := tab_get _ h
theorem ext10 {xs ys : List Int} (hx : xs.length = 10) (hy : ys.length = 10) (h : ∀ i, i < 10 → xs.getD i 0 = ys.getD i 0) : xs = ys := by
  apply List.ext_getElem (by omega)
  intro i h1 h2
  have := h i (by omega)
  simpa [h1, h2] using this
/-- Whether a load's prices hold. -/
def rowHold (c : List (List Int)) (us vs : List Int) (i : Nat) : Bool := (List.range c.length).all fun b => fitsAt c us vs i b
theorem holdB_rows {c : List (List Int)} {us vs : List Int} : holdB c us vs = (List.range c.length).all (rowHold c us vs) := rfl
theorem row_same {c : List (List Int)} {us vs : List Int} (h : bothB c us vs = true) {i : Nat} (hi : i < c.length) :
    ((List.range 10).all fun b => (minR (bothR us vs i) (pad (c.getD i []))).getD b 0 == (bothR us vs i).getD b 0) = rowHold c us vs i := by
  obtain ⟨h1, h2, h3⟩ := bothB_yes h
  have h4 := prB_yes h2
  have hl := costB_len h1
  rw [Bool.eq_iff_iff]
  simp only [rowHold, List.all_eq_true, List.mem_range, beq_iff_eq, fitsAt, decide_eq_true_eq]
  constructor
  · intro hh b hb
    have := hh b (by omega)
    rw [minR_get _ _ (by omega), bothR_get _ _ _ (by omega), pad_get _ (by omega), bothAt, if_pos (by omega)] at this
    show _ ≤ (c.getD i []).getD b 0
    omega
  · intro hh b hb
    rw [minR_get _ _ (by omega), bothR_get _ _ _ (by omega), pad_get _ (by omega), bothAt]
    by_cases hb' : b < vs.length
    · rw [if_pos hb']
      have := hh b (by omega)
      rw [ct] at this
      omega
    · rw [if_neg hb']
      have : (c.getD i []).getD b 0 = 0 := by
        have := (costB_row h1 hi).1
        rw [List.getD_eq_getElem?_getD, List.getElem?_eq_none (by omega)]; rfl
      rw [this]; rfl
end Go.Proofs.Ytkebaklmkidfoaa.Hu
namespace Go.Proofs.Ytkebaklmkidfoaa.Hu

def leftN (n : Nat) (gn : Nat → Bool) : List Nat := (List.range n).filter fun b => !gn b
def cast (l : List Nat) : List Int := l.map fun (b : Nat) => (b : Int)
theorem cast_len (l : List Nat) : (cast l).length = l.length := by simp [cast]
theorem cast_get (l : List Nat) {i : Nat} (h : i < l.length) : (cast l).getD i 0 = ((l.getD i 0 : Nat) : Int) := by simp [cast, h]
theorem cast_mem {l : List Nat} {b : Nat} : (b : Int) ∈ cast l ↔ b ∈ l := by
  simp only [cast, List.mem_map]
  constructor
  · rintro ⟨a, h, e⟩
    have : a = b := by omega
    exact this ▸ h
  · intro h; exact ⟨b, h, rfl⟩
theorem left_mem {n b : Nat} {gn : Nat → Bool} : b ∈ leftN n gn ↔ b < n ∧ gn b = false := by simp [leftN]
theorem left_nodup (n : Nat) (gn : Nat → Bool) : (leftN n gn).Nodup := (List.nodup_range).filter _
theorem left_succ (n : Nat) (gn : Nat → Bool) : leftN (n + 1) gn = leftN n gn ++ (if gn n = false then [n] else []) := by
  unfold leftN
  rw [List.range_succ, List.filter_append]
  congr 1
  cases h : gn n <;> simp [h]
/-- The first of the smallest. -/
def pickN (ls : Fn) (o : Option Nat) (x : Nat) : Option Nat := match o with
  | none => some x
  | some b => if ls x < ls b then some x else some b
def bestN (ls : Fn) (l : List Nat) : Option Nat := l.foldl (pickN ls) none
theorem best_snoc (ls : Fn) (l : List Nat) (x : Nat) : bestN ls (l ++ [x]) = pickN ls (bestN ls l) x := by simp [bestN]
theorem best_left (ls : Fn) (gn : Nat → Bool) : ∀ n, bestTo ls gn n = bestN ls (leftN n gn)
  | 0 => rfl
  | n + 1 => by
    rw [bestTo, left_succ, best_left ls gn n]
    cases h : gn n
    · simp only [if_true]
      rw [best_snoc]
      cases e : bestN ls (leftN n gn) with
      | none => simp [pickN]
      | some b => simp [pickN]
    · simp only [Bool.true_eq_false, if_false, List.append_nil, false_and]
      cases e : bestN ls (leftN n gn) <;> rfl
theorem fold_congr {ls ls' : Fn} : ∀ {l : List Nat} {o : Option Nat}, (∀ b, b ∈ l → ls b = ls' b) → (∀ b, o = some b → ls b = ls' b) → l.foldl (pickN ls) o = l.foldl (pickN ls') o ∧ ∀ b, l.foldl (pickN ls) o = some b → b ∈ l ∨ o = some b
  | [], o, _, _ => ⟨rfl, fun b h => Or.inr h⟩
  | x :: l, o, h, ho => by
    have hx := h x List.mem_cons_self
    have e : pickN ls o x = pickN ls' o x := by
      cases o with
      | none => rfl
      | some d => simp only [pickN]; rw [hx, ho d rfl]
    have hp : ∀ b, pickN ls o x = some b → ls b = ls' b ∧ (b = x ∨ o = some b) := by
      intro b hb
      cases o with
      | none => simp only [pickN, Option.some.injEq] at hb; subst hb; exact ⟨hx, Or.inl rfl⟩
      | some d =>
        simp only [pickN] at hb
        split at hb
        · cases hb; exact ⟨hx, Or.inl rfl⟩
        · cases hb; exact ⟨ho _ rfl, Or.inr rfl⟩
    obtain ⟨h1, h2⟩ := fold_congr (l := l) (o := pickN ls o x) (fun b hb => h b (List.mem_cons_of_mem _ hb)) (fun b hb => (hp b hb).1)
    refine ⟨?_, fun b hb => ?_⟩
    · rw [List.foldl_cons, List.foldl_cons, ← e]; exact h1
    · rcases h2 b hb with h' | h'
      · exact Or.inl (List.mem_cons_of_mem _ h')
      · rcases (hp b h').2 with h'' | h''
        · exact Or.inl (by rw [h'']; exact List.mem_cons_self)
        · exact Or.inr h''
theorem best_congr {ls ls' : Fn} {l : List Nat} (h : ∀ b, b ∈ l → ls b = ls' b) : bestN ls l = bestN ls' l := (fold_congr h (fun b hb => by cases hb)).1
theorem best_mem {ls : Fn} {l : List Nat} {b : Nat} (h : bestN ls l = some b) : b ∈ l := by
  rcases (fold_congr (ls := ls) (ls' := ls) (l := l) (o := none) (fun _ _ => rfl) (fun _ _ => rfl)).2 b h with h | h
  · exact h
  · cases h
/-- Loads on the way, once each bin of g was gone to (the last one first). -/
def loadsW (o : Fn) (L : Nat) : List Nat → List Nat
  | [] => []
  | _ :: r => loadsW o L r ++ [ld o L (lastOf r)]
theorem loadsW_len (o : Fn) (L : Nat) : ∀ g, (loadsW o L g).length = g.length
  | [] => rfl
  | _ :: r => by simp [loadsW, loadsW_len o L r]
theorem loadsW_mem {o : Fn} {L i : Nat} : ∀ {d : Nat} {g : List Nat}, i ∈ loadsW o L (d :: g) ↔ ∃ f, PR g f ∧ ld o L f = i
  | d, [] => by
    simp only [loadsW, List.nil_append, List.mem_singleton]
    constructor
    · rintro rfl; exact ⟨-1, Or.inl rfl, rfl⟩
    · rintro ⟨f, e | ⟨b, hb, _⟩, h⟩
      · subst e; exact h.symm
      · cases hb
  | d, b :: r => by
    rw [loadsW, List.mem_append, loadsW_mem, List.mem_singleton]
    constructor
    · rintro (⟨f, h1, h2⟩ | rfl)
      · exact ⟨f, h1.more b, h2⟩
      · exact ⟨(b : Int), Or.inr ⟨b, List.mem_cons_self, rfl⟩, rfl⟩
    · rintro ⟨f, e | ⟨c, hc, e⟩, h⟩
      · exact Or.inl ⟨f, Or.inl e, h⟩
      · rcases List.mem_cons.1 hc with rfl | hc
        · right; subst e; exact h.symm
        · exact Or.inl ⟨f, Or.inr ⟨c, hc, e⟩, h⟩
theorem ld_inj {n : Nat} {o : Fn} {L : Nat} (ho : Ow n o L) {g : List Nat} (hg : ∀ b, b ∈ g → b < n) (hw : ∀ b, b ∈ g → 0 ≤ o b) {f f' : Int} (h : PR g f) (h' : PR g f') (e : ld o L f = ld o L f') : f = f' := by
  rcases h with rfl | ⟨b, hb, rfl⟩
  · rcases h' with rfl | ⟨c, hc, rfl⟩
    · rfl
    · have h1 := hw c hc
      have : ¬ ((c : Int) < 0) := by omega
      simp only [ld, if_neg this, Int.toNat_natCast, show (-1 : Int) < 0 by decide, if_true] at e
      rcases ho.is c (hg c hc) with h | h <;> omega
  · have h1 := hw b hb
    have hb0 : ¬ ((b : Int) < 0) := by omega
    rcases h' with rfl | ⟨c, hc, rfl⟩
    · simp only [ld, if_neg hb0, Int.toNat_natCast, show (-1 : Int) < 0 by decide, if_true] at e
      rcases ho.is b (hg b hb) with h | h <;> omega
    · have h2 := hw c hc
      have hc0 : ¬ ((c : Int) < 0) := by omega
      simp only [ld, if_neg hb0, if_neg hc0, Int.toNat_natCast] at e
      have := ho.inj b (hg b hb) c (hg c hc) h1 (by omega)
      rw [this]
theorem loadsW_nodup {n : Nat} {o : Fn} {L : Nat} (ho : Ow n o L) : ∀ {d : Nat} {g : List Nat}, (∀ b, b ∈ g → b < n) → (∀ b, b ∈ g → 0 ≤ o b) → g.Nodup → (loadsW o L (d :: g)).Nodup
  | d, [], _, _, _ => by simp [loadsW]
  | d, b :: r, hg, hw, hnd => by
    rw [loadsW, List.nodup_append]
    refine ⟨loadsW_nodup ho (fun x hx => hg x (List.mem_cons_of_mem _ hx)) (fun x hx => hw x (List.mem_cons_of_mem _ hx)) (List.nodup_cons.1 hnd).2, by simp, fun x hx y hy => ?_⟩
    rw [List.mem_singleton] at hy
    subst hy
    obtain ⟨f, hf, e⟩ := loadsW_mem.1 hx
    intro e'
    have := ld_inj ho hg hw (hf.more b) (PR.last (b :: r)) (by rw [e]; exact e')
    rcases hf with h | ⟨c, hc, h⟩
    · simp [lastOf] at this; omega
    · rw [h] at this
      simp only [lastOf] at this
      have : c = b := by omega
      subst this
      exact (List.nodup_cons.1 hnd).1 hc
/-- Numbers at some places, each more by as much. -/
def addAt (y : Int) : List Int → List Nat → List Int
  | us, [] => us
  | us, i :: l => addAt y (us.set i (us.getD i 0 + y)) l
theorem addAt_len (y : Int) : ∀ (l : List Nat) (us : List Int), (addAt y us l).length = us.length
  | [], us => rfl
  | i :: l, us => by rw [addAt, addAt_len]; simp
theorem addAt_snoc (y : Int) : ∀ (l : List Nat) (us : List Int) (i : Nat), addAt y us (l ++ [i]) = (addAt y us l).set i ((addAt y us l).getD i 0 + y)
  | [], us, i => rfl
  | j :: l, us, i => by rw [List.cons_append, addAt, addAt_snoc y l]; rfl
theorem addAt_get (y : Int) {l : List Nat} (hd : l.Nodup) (us : List Int) {i : Nat} (hi : i < us.length) : (addAt y us l).getD i 0 = if i ∈ l then us.getD i 0 + y else us.getD i 0 := by
  induction l generalizing us with
  | nil => simp [addAt]
  | cons j l ih =>
    obtain ⟨h1, h2⟩ := List.nodup_cons.1 hd
    rw [addAt, ih h2 _ (by simpa using hi), set_get9 _ _ _ _ hi]
    by_cases e : i = j
    · subst e
      rw [if_neg h1, if_pos rfl, if_pos (by simp)]
    · rw [if_neg e]
      simp [e]
theorem tab_ext {n : Nat} {f : Fn} {xs : List Int} (hx : xs.length = n) (h : ∀ i, i < n → xs.getD i 0 = f i) : xs = tab n f := by
  apply List.ext_getElem
  · rw [hx, tab_len]
  · intro i h1 h2
    have := h i (by omega)
    simp [tab]
    simpa [h1] using this
/-- What the program keeps of the least ones and of whom they were seen from. -/
def mx : Int := 9223372036854775807
structure LsR (n : Nat) (o : Fn) (L : Nat) (S : Sk) (g : List Nat) (xs ys : List Int) : Prop where
  l0 : g = [] → ∀ b, b < n → xs.getD b 0 = mx
  l1 : g ≠ [] → ∀ b, b < n → b ∉ g → xs.getD b 0 = S.ls b
  fr : g ≠ [] → ∀ b, b < n → ys.getD b 0 = ((ld o L (S.fr b) : Nat) : Int)
def seeX (lf : List Nat) (rs xs : List Int) : List Int := tab 10 fun b => if b ∈ lf ∧ rs.getD b 0 < xs.getD b 0 then rs.getD b 0 else xs.getD b 0
def seeY (lf : List Nat) (rs xs ys : List Int) (i : Int) : List Int := tab 10 fun b => if b ∈ lf ∧ rs.getD b 0 < xs.getD b 0 then i else ys.getD b 0
def decX (lf : List Nat) (xs : List Int) (y : Int) : List Int := tab 10 fun b => if b ∈ lf then xs.getD b 0 - y else xs.getD b 0
/-- What a load costs in each bin, less both prices. -/
def restR (c : List (List Int)) (us vs : List Int) (i : Nat) : List Int := tab 10 fun b => (pad (c.getD i [])).getD b 0 - (bothR us vs i).getD b 0
theorem restR_get {c : List (List Int)} {u v : Fn} {n i b : Nat} (hn : n ≤ 10) (hi : i < n) (hb : b < n) : (restR c (tab n u) (tab n v) i).getD b 0 = sl c u v i b := by
  rw [restR, tab_get _ (by omega), pad_get _ (by omega), bothR_get _ _ _ (by omega), bothAt, tab_len, if_pos hb, tab_get _ hb, tab_get _ hi, sl, ct]
  omega
/-- Behind a load's look. -/
theorem see_is {c : List (List Int)} {n : Nat} {o : Fn} {L : Nat} {S : Sk} {g : List Nat} {xs ys : List Int} (hc : Good c n) (ho : Ow n o L) (hL : L < n) (h : In c n o L S g) (hx : 0 ≤ nx o L S.la) (hr : LsR n o L S g xs ys) (hn : n ≤ 10) :
    (∀ b, b < n → b ∉ g → (seeX (leftN n S.gn) (restR c (tab n S.u) (tab n S.v) (ld o L S.la)) xs).getD b 0 = lsN c o L S b) ∧
    (∀ b, b < n → (seeY (leftN n S.gn) (restR c (tab n S.u) (tab n S.v) (ld o L S.la)) xs ys (ld o L S.la)).getD b 0 = ((ld o L (frN c o L S b) : Nat) : Int)) := by
  have hw : ∀ b, b ∈ g → 0 ≤ o b := by
    intro b hb
    cases g with
    | nil => cases hb
    | cons d r =>
      rcases List.mem_cons.1 hb with rfl | hb
      · have e := h.la
        rw [e] at hx
        have : ¬ ((b : Int) < 0) := by omega
        simpa [nx, lastOf, this] using hx
      · exact h.own b hb
  have hLa : PR g S.la := by rw [h.la]; exact PR.last g
  have hli : ld o L S.la < n := ld_lt ho hL h.gb hw hLa
  obtain ⟨z, hz, hzf⟩ := ho.free hL
  have hub := h.pr.ub hc hz hzf
  have hgn : ∀ b, b < n → (S.gn b = false ↔ b ∉ g) := fun b hb => by
    have := h.gl b hb
    cases e : S.gn b
    · simp only [true_iff]; intro hm; rw [this.2 hm] at e; cases e
    · simp only [Bool.true_eq_false, false_iff]; exact fun hn => hn (this.1 e)
  have slb : ∀ b, b < n → sl c S.u S.v (ld o L S.la) b ≤ 300 := fun b hb => by
    have h2 := (hc.cl _ hli b hb).2
    have h3 := h.pr.up _ hli
    have h4 : -100 ≤ S.v b := by
      rcases ho.is b hb with e | e
      · have := h.pr.vz b hb (by omega); omega
      · have h5 := h.pr.ti b hb e.1
        have h6 := hub (o b).toNat (by omega)
        have h7 := (hc.cl (o b).toNat (by omega) b hb).1
        omega
    unfold sl; omega
  have key : ∀ b, b < n → ((b ∈ leftN n S.gn ∧ (restR c (tab n S.u) (tab n S.v) (ld o L S.la)).getD b 0 < xs.getD b 0) ↔ (S.gn b = false ∧ sl c S.u S.v (ld o L S.la) b < S.ls b)) := by
    intro b hb
    rw [restR_get hn hli hb, left_mem]
    constructor
    · rintro ⟨⟨_, h1⟩, h2⟩
      refine ⟨h1, ?_⟩
      by_cases hg : g = []
      · rw [h.l0 hg b hb]; have := slb b hb; unfold far; omega
      · rw [hr.l1 hg b hb ((hgn b hb).1 h1)] at h2; exact h2
    · rintro ⟨h1, h2⟩
      refine ⟨⟨hb, h1⟩, ?_⟩
      by_cases hg : g = []
      · rw [hr.l0 hg b hb]; have := slb b hb; unfold mx; omega
      · rw [hr.l1 hg b hb ((hgn b hb).1 h1)]; exact h2
  refine ⟨fun b hb hg => ?_, fun b hb => ?_⟩
  · rw [seeX, tab_get _ (by omega), lsN]
    by_cases e : S.gn b = false ∧ sl c S.u S.v (ld o L S.la) b < S.ls b
    · rw [if_pos ((key b hb).2 e), if_pos e, restR_get hn hli hb]
    · rw [if_neg (fun h' => e ((key b hb).1 h')), if_neg e]
      by_cases hg0 : g = []
      · exfalso
        refine e ⟨(hgn b hb).2 hg, ?_⟩
        rw [h.l0 hg0 b hb]; have := slb b hb; unfold far; omega
      · exact hr.l1 hg0 b hb hg
  · rw [seeY, tab_get _ (by omega), frN]
    by_cases e : S.gn b = false ∧ sl c S.u S.v (ld o L S.la) b < S.ls b
    · rw [if_pos ((key b hb).2 e), if_pos e]
    · rw [if_neg (fun h' => e ((key b hb).1 h')), if_neg e]
      by_cases hg0 : g = []
      · exfalso
        refine e ⟨(hgn b hb).2 (by rw [hg0]; simp), ?_⟩
        rw [h.l0 hg0 b hb]; have := slb b hb; unfold far; omega
      · exact hr.fr hg0 b hb
end Go.Proofs.Ytkebaklmkidfoaa.Hu
namespace Go.Proofs.Ytkebaklmkidfoaa
open Go.RowKit

/-- Nothing has turned but the blocks x and y; new blocks may be there. -/
structure Off2 (w w' : World) (x y : Nat) : Prop where
  os : w'.os = w.os
  tape : w'.tape = w.tape
  output : w'.output = w.output
  size : w.heap.size ≤ w'.heap.size
  block : ∀ b, b < w.heap.size → b ≠ x → b ≠ y → w'.heap[b]? = w.heap[b]?
theorem Off2.below {w w' : World} {x y k : Nat} (h : Off2 w w' x y) (hx : k ≤ x) (hy : k ≤ y) (hk : k ≤ w.heap.size) : Below k w w' :=
  ⟨h.os, h.tape, h.output, h.size, fun b hb => h.block b (by omega) (by omega) (by omega)⟩
theorem own_near {w : World} {base n g cap : Nat} {xs : List Value} (h : w.ownsRow base 3 1 (.slice (some ⟨g, 0, none⟩) n cap) n xs) : g < w.heap.size := by
  rcases h.2 with ⟨h0, _⟩ | ⟨g', cap', cur, hv, h2, h3, _⟩
  · cases h0
  · cases hv; exact (Array.getElem?_eq_some_iff.1 h3).1

end Go.Proofs.Ytkebaklmkidfoaa
namespace Go.Proofs.Ytkebaklmkidfoaa
open Go.RowKit

/-- The list that a value owns holds k, k + 1, .. -/
def HeldV (w : World) (v : Value) (n : Nat) (k : Int) : Prop :=
  (v = .slice none 0 0 ∧ n = 0) ∨ ∃ g cap, v = .slice (some ⟨g, 0, none⟩) n cap ∧ g < w.heap.size ∧ ∀ j : Nat, j < n → w.cell? ⟨g, j, none⟩ = some (.int .i64 (k + j))
theorem HeldV.keep {w w' : World} {v : Value} {n : Nat} {k : Int} (h : HeldV w v n k) (hs : w.heap.size ≤ w'.heap.size) (hb : ∀ g, v.ownBlock = some g → w'.heap[g]? = w.heap[g]?) : HeldV w' v n k := by
  rcases h with h | ⟨g, cap, rfl, hl, hc⟩
  · exact Or.inl h
  · exact Or.inr ⟨g, cap, rfl, Nat.lt_of_lt_of_le hl hs, fun j hj => (World.cell?_of_block (w := w) (a := ⟨g, j, none⟩) (hb g rfl)).trans (hc j hj)⟩
theorem HeldV.below {w w' : World} {v : Value} {n : Nat} {k : Int} (h : HeldV w v n k) (hb : Below w.heap.size w w') : HeldV w' v n k := by
  rcases h with h | ⟨g, cap, rfl, hl, hc⟩
  · exact Or.inl h
  · exact Or.inr ⟨g, cap, rfl, Nat.lt_of_lt_of_le hl hb.size, fun j hj => (hb.cell (p := ⟨g, j, none⟩) hl).trans (hc j hj)⟩
theorem own_keep {w w' : World} {base n : Nat} {v : Value} {xs : List Value} (h : w.ownsRow base 3 1 v n xs) (hb : ∀ g, v.ownBlock = some g → g < w.heap.size → w'.heap[g]? = w.heap[g]?) : w'.ownsRow base 3 1 v n xs := by
  rcases h with ⟨h0, h | ⟨g', cap, cur, rfl, h2, h3, h4⟩⟩
  · exact ⟨h0, Or.inl h⟩
  · exact ⟨h0, Or.inr ⟨g', cap, cur, rfl, h2, (hb g' rfl (Array.getElem?_eq_some_iff.1 h3).1).trans h3, h4⟩⟩
theorem own_below {w w' : World} {base n : Nat} {v : Value} {xs : List Value} (h : w.ownsRow base 3 1 v n xs) (hb : Below w.heap.size w w') : w'.ownsRow base 3 1 v n xs := own_keep h fun _ _ hl => hb.block _ hl
theorem own_row {w : World} {base n : Nat} {v : Value} {xs : List Int} (hx : xs.length = n) (h : w.ownsRow base 3 1 v n (ints xs)) : ∃ a cap, v = .slice a n cap ∧ ARow w a xs := by
  rcases h.2 with ⟨rfl, hn⟩ | ⟨g, cap, cur, rfl, _⟩
  · subst hn; exact ⟨none, 0, rfl, Or.inl (List.length_eq_zero_iff.1 hx)⟩
  · exact ⟨_, _, rfl, arow_owns hx.symm h⟩
theorem grown_under {w w' : World} {base n k : Nat} {v : Value} {xs : List Value} (hg : w.grownBy w' v.ownBlock) (h : w.ownsRow base 3 1 v n xs) (hk : k ≤ base) (hs : k ≤ w.heap.size) : Below k w w' :=
  ⟨hg.os, hg.tape, hg.output, hg.size, fun b hb => hg.block b (by omega) (fun he => by have := h.lt b he.symm; omega)⟩

end Go.Proofs.Ytkebaklmkidfoaa
namespace Go.Proofs.Ytkebaklmkidfoaa
open Go.RowKit

/-- What stays while a profile is held against its copy. -/
def Rst9 (w : World) (B x y : Nat) (ps fs : List Int) (w' : World) : Prop := Below w.heap.size w w' ∧ B < w'.heap.size ∧ ARow w' (some ⟨x, 0, none⟩) ps ∧ ARow w' (some ⟨y, 0, none⟩) fs
theorem Rst9.below {w w1 w2 : World} {B x y : Nat} {ps fs : List Int} (h : Rst9 w B x y ps fs w1) (hb : Below w1.heap.size w1 w2) : Rst9 w B x y ps fs w2 :=
  ⟨h.1.trans (hb.mono h.1.size), Nat.lt_of_lt_of_le h.2.1 hb.size, h.2.2.1.below hb, h.2.2.2.below hb⟩
theorem rst9_step {w w1 w2 : World} {B x y : Nat} {ps fs : List Int} {v0 v1 v2 v3 : Value} (hB : w.heap.size < B)
    (s : w1.cell? ⟨w.heap.size, 0, none⟩ = some v0 ∧ w1.cell? ⟨w.heap.size, 1, none⟩ = some v1 ∧ w1.cell? ⟨B, 0, none⟩ = some v2 ∧ w1.cell? ⟨B, 1, none⟩ = some v3 ∧ Rst9 w B x y ps fs w1) (hb : Below w1.heap.size w1 w2) :
    w2.cell? ⟨w.heap.size, 0, none⟩ = some v0 ∧ w2.cell? ⟨w.heap.size, 1, none⟩ = some v1 ∧ w2.cell? ⟨B, 0, none⟩ = some v2 ∧ w2.cell? ⟨B, 1, none⟩ = some v3 ∧ Rst9 w B x y ps fs w2 := by
  obtain ⟨s0, s1, s2, s3, s4⟩ := s
  have hl := s4.2.1
  obtain ⟨hc, _⟩ := bcell hb
  exact ⟨(hc _ _ (by omega)).trans s0, (hc _ _ (by omega)).trans s1, (hc _ _ (by omega)).trans s2, (hc _ _ (by omega)).trans s3, s4.below hb⟩

/-- .. and nothing that lay in an earlier world has turned. -/
def Rst9' (w : World) (B x y : Nat) (ps fs : List Int) (w0 w' : World) : Prop := Rst9 w B x y ps fs w' ∧ Below w0.heap.size w0 w'
theorem rst9_of {w w0 w1 : World} {B x y : Nat} {ps fs : List Int} {v0 v1 v2 v3 : Value}
    (s : w1.cell? ⟨w.heap.size, 0, none⟩ = some v0 ∧ w1.cell? ⟨w.heap.size, 1, none⟩ = some v1 ∧ w1.cell? ⟨B, 0, none⟩ = some v2 ∧ w1.cell? ⟨B, 1, none⟩ = some v3 ∧ Rst9' w B x y ps fs w0 w1) :
    w1.cell? ⟨w.heap.size, 0, none⟩ = some v0 ∧ w1.cell? ⟨w.heap.size, 1, none⟩ = some v1 ∧ w1.cell? ⟨B, 0, none⟩ = some v2 ∧ w1.cell? ⟨B, 1, none⟩ = some v3 ∧ Rst9 w B x y ps fs w1 := ⟨s.1, s.2.1, s.2.2.1, s.2.2.2.1, s.2.2.2.2.1⟩
theorem rst9_step' {w w0 w1 w2 : World} {B x y : Nat} {ps fs : List Int} {v0 v1 v2 v3 : Value} (hB : w.heap.size < B)
    (s : w1.cell? ⟨w.heap.size, 0, none⟩ = some v0 ∧ w1.cell? ⟨w.heap.size, 1, none⟩ = some v1 ∧ w1.cell? ⟨B, 0, none⟩ = some v2 ∧ w1.cell? ⟨B, 1, none⟩ = some v3 ∧ Rst9' w B x y ps fs w0 w1) (hb : Below w1.heap.size w1 w2) :
    w2.cell? ⟨w.heap.size, 0, none⟩ = some v0 ∧ w2.cell? ⟨w.heap.size, 1, none⟩ = some v1 ∧ w2.cell? ⟨B, 0, none⟩ = some v2 ∧ w2.cell? ⟨B, 1, none⟩ = some v3 ∧ Rst9' w B x y ps fs w0 w2 := by
  obtain ⟨q0, q1, q2, q3, q4⟩ := rst9_step hB (rst9_of s) hb
  have := s.2.2.2.2.2
  exact ⟨q0, q1, q2, q3, q4, this.trans (hb.mono this.size)⟩
theorem own_sh9 {w : World} {base n : Nat} {v : Value} {xs : List Value} (h : w.ownsRow base 3 1 v n xs) : ∃ a cap, v = .slice a n cap := by
  rcases h.2 with ⟨rfl, hn⟩ | ⟨g, cap, cur, rfl, _⟩
  · exact ⟨none, 0, by rw [hn]⟩
  · exact ⟨_, _, rfl⟩
theorem own_base9 {w : World} {b b' n : Nat} {v : Value} {xs : List Value} (h : w.ownsRow b 3 1 v n xs) (hb : b' ≤ b) : w.ownsRow b' 3 1 v n xs := by
  obtain ⟨h1, h⟩ := h
  refine ⟨h1, ?_⟩
  rcases h with h | ⟨g, cap, cur, rfl, h2, h3⟩
  · exact Or.inl h
  · exact Or.inr ⟨g, cap, cur, rfl, Nat.le_trans hb h2, h3⟩
def Cs9 (W : World) : List (Nat × Value × Value) → Prop
  | [] => True
  | e :: l => PBox W e.1 e.2.1 e.2.2 ∧ Cs9 W l
theorem Cs9.below {W W' : World} : ∀ {l : List (Nat × Value × Value)}, Cs9 W l → Below W.heap.size W W' → Cs9 W' l
  | [], _, _ => trivial
  | _ :: _, h, hb => ⟨h.1.below hb, Cs9.below h.2 hb⟩
theorem own_hi9 {w : World} {base n g : Nat} {v : Value} {xs : List Value} (h : w.ownsRow base 3 1 v n xs) (hg : v.ownBlock = some g) : g < w.heap.size := by
  rcases h.2 with ⟨rfl, _⟩ | ⟨g', cap, cur, rfl, _, h3, _⟩
  · cases hg
  · cases hg; exact (Array.getElem?_eq_some_iff.1 h3).1
theorem PBox.keep9 {W W' : World} {B : Nat} {v0 v1 : Value} (h : PBox W B v0 v1) (hs : W.heap.size ≤ W'.heap.size) (hb : W'.heap[B]? = W.heap[B]?) : PBox W' B v0 v1 :=
  ⟨(World.cell?_of_block (w := W) (a := ⟨B, 0, none⟩) hb).trans h.1, (World.cell?_of_block (w := W) (a := ⟨B, 1, none⟩) hb).trans h.2.1, Nat.lt_of_lt_of_le h.2.2 hs⟩
end Go.Proofs.Ytkebaklmkidfoaa
namespace Go.Proofs.Ytkebaklmkidfoaa
open Go.RowKit

def tv (xs : List Int) : Array Value := (ints xs).toArray
theorem infR10 : (Try.prog.info? 63).map (·.size) = some 10 := by kernel_rfl
/-- A list of 10 numbers in a variable of its own. -/
def R10 (w : World) (b : Nat) (xs : List Int) : Prop := xs.length = 10 ∧ b < w.heap.size ∧ ∀ i, i < 10 → w.cell? ⟨b, i, none⟩ = some (.int .i64 (xs.getD i 0)) ∧ w.frozen? ⟨b, i, none⟩ = false
theorem R10.new (w : World) (xs : List Int) (hx : xs.length = 10) (t : TypeId) : R10 (w.alloc (.cells (tv xs) t)) w.heap.size xs := by
  have h := heap_alloc_last w (.cells (tv xs) t)
  refine ⟨hx, by simp, fun i hi => ⟨?_, by unfold World.frozen?; rw [h]; simp⟩⟩
  have : (ints xs)[i]? = some (.int .i64 (xs.getD i 0)) := ints_get xs i (by omega)
  rw [cell_of_row _ _ _ _ _ _ h, tv]
  simpa using this
theorem R10.below {w w' : World} {b : Nat} {xs : List Int} (h : R10 w b xs) (hb : Below w.heap.size w w') : R10 w' b xs :=
  ⟨h.1, Nat.lt_of_lt_of_le h.2.1 hb.size, fun i hi => ⟨(hb.cell (p := ⟨b, i, none⟩) h.2.1).trans (h.2.2 i hi).1, (hb.frozen (p := ⟨b, i, none⟩) h.2.1).trans (h.2.2 i hi).2⟩⟩
theorem R10.range {w : World} {b : Nat} {xs : List Int} (h : R10 w b xs) : w.rangeAt b 0 (ints xs) := fun j v hv => by
  have hj : j < xs.length := by have := (List.getElem?_eq_some_iff.1 hv).1; rwa [ints_len] at this
  rw [Nat.zero_add, (h.2.2 j (by have := h.1; omega)).1, ← hv, ints_get xs j hj]
theorem R10.there {w : World} {b : Nat} {xs : List Int} (h : R10 w b xs) : w.there b 0 10 := fun j hj => by
  rw [Nat.zero_add]
  exact ⟨by rw [(h.2.2 j hj).1]; rfl, (h.2.2 j hj).2⟩
theorem R10.loads {w : World} {b : Nat} {xs : List Int} (h : R10 w b xs) : (Instr.loadAt 63 (.pointer (some ⟨b, 0, none⟩))).run Try.prog w = .ok (.agg (tv xs)) w :=
  run_loadAt_mid w b 0 63 (ints xs) _ h.range Try.underlying63 rfl (by rw [ints_len, h.1]; exact infR10)
theorem R10.set {w : World} {b : Nat} {xs : List Int} (h : R10 w b xs) (k : Nat) (x : Int) (hk : k < 10) : R10 (w.setCell ⟨b, k, none⟩ (.int .i64 x)) b (xs.set k x) := by
  refine ⟨by simpa using h.1, by simpa using h.2.1, fun i hi => ⟨?_, by simpa using (h.2.2 i hi).2⟩⟩
  rw [Hu.set_get9 _ _ _ _ (by have := h.1; omega)]
  by_cases e : i = k
  · subst e; rw [if_pos rfl]; exact World.cell?_setCell_same _ _ _ (h.2.2 i hi).1
  · rw [if_neg e, World.cell?_setCell_other _ _ _ _ (by intro h; cases h; exact e rfl)]; exact (h.2.2 i hi).1
theorem R10.stores {w : World} {b : Nat} {xs ys : List Int} (h : R10 w b xs) (hy : ys.length = 10) : (Instr.storeAt 63 (.pointer (some ⟨b, 0, none⟩)) (.agg (tv ys))).run Try.prog w = .ok () (w.setCells b 0 (ints ys)) :=
  run_storeAt_mid w b 0 63 (tv ys) (by rw [show (tv ys).size = 10 by simp [tv, ints_len, hy]]; exact h.there) (by rw [show (tv ys).size = 10 by simp [tv, ints_len, hy]]; exact infR10) (all_oneCell_toArray (fun v hv => by simp only [ints, List.mem_map] at hv; obtain ⟨x, _, rfl⟩ := hv; rfl))
theorem R10.stored {w : World} {b : Nat} {xs ys : List Int} (h : R10 w b xs) (hy : ys.length = 10) : R10 (w.setCells b 0 (ints ys)) b ys := by
  have hs : (w.setCells b 0 (ints ys)).heap.size = w.heap.size := by
    have : ∀ (vs : List Value) (o : Nat) (w : World), (w.setCells b o vs).heap.size = w.heap.size := by
      intro vs
      induction vs with
      | nil => intro o w; rfl
      | cons v r ih => intro o w; rw [World.setCells, ih]; simp
    exact this _ _ _
  refine ⟨hy, by rw [hs]; exact h.2.1, fun i hi => ⟨?_, by rw [World.frozen?_setCells]; exact (h.2.2 i hi).2⟩⟩
  have := World.rangeAt_setCells_same w b 0 (ints ys) (by rw [ints_len, hy]; exact h.there) i _ (ints_get ys i (by omega))
  rwa [Nat.zero_add] at this
theorem below_cells9 {w : World} {k b : Nat} (h : k ≤ b) (vs : List Value) (o : Nat) : Below k w (w.setCells b o vs) := by
  induction vs generalizing o w with
  | nil => exact Below.refl _ _
  | cons v r ih => rw [World.setCells]; exact ((Below.refl k w).setCell (p := ⟨b, o, none⟩) h v).trans (ih _)

theorem R10.loadVar {w : World} {b : Nat} {xs : List Int} (h : R10 w b xs) : (loadVar 63 ⟨b, 0, none⟩).run Try.prog w = .ok (.agg (tv xs)) w :=
  run_loadVar_mid w b 0 63 (ints xs) _ h.range Try.underlying63 rfl (by rw [ints_len, h.1]; exact infR10)
theorem R10.other {w : World} {b b' k : Nat} {v : Value} {xs : List Int} (h : R10 w b xs) (hb : b ≠ b') : R10 (w.setCell ⟨b', k, none⟩ v) b xs :=
  ⟨h.1, by simpa using h.2.1, fun i hi => ⟨by rw [World.cell?_setCell_other _ _ _ _ (by intro e; cases e; exact hb rfl)]; exact (h.2.2 i hi).1, by simpa using (h.2.2 i hi).2⟩⟩
def z10 : List Int := List.replicate 10 0
theorem z10_new (w : World) (t : TypeId) : R10 (w.alloc (.cells #[.int .i64 0, .int .i64 0, .int .i64 0, .int .i64 0, .int .i64 0, .int .i64 0, .int .i64 0, .int .i64 0, .int .i64 0, .int .i64 0] t)) w.heap.size z10 := R10.new w z10 rfl t

/-- But for one variable all is as it was. -/
def Turn9 (b : Nat) (w w' : World) : Prop := w'.heap.size = w.heap.size ∧ (∀ k, k ≤ b → Below k w w') ∧ ∀ g, g ≠ b → w'.heap[g]? = w.heap[g]?
theorem turn_cells9 (w : World) (b o : Nat) (vs : List Value) : Turn9 b w (w.setCells b o vs) := by
  refine ⟨?_, fun k hk => below_cells9 hk vs o, ?_⟩
  · induction vs generalizing o w with
    | nil => rfl
    | cons v r ih => rw [World.setCells, ih]; simp
  · intro g hg
    induction vs generalizing o w with
    | nil => rfl
    | cons v r ih =>
      rw [World.setCells, ih]
      exact Below.heap_setCell _ _ _ _ (by simpa using hg)
theorem R10.turn {w w' : World} {b b' : Nat} {xs : List Int} (h : R10 w b xs) (t : Turn9 b' w w') (hb : b ≠ b') : R10 w' b xs := by
  have e := t.2.2 b hb
  refine ⟨h.1, by rw [t.1]; exact h.2.1, fun i hi => ⟨?_, ?_⟩⟩
  · rw [World.cell?_of_block (w := w) (a := ⟨b, i, none⟩) e]; exact (h.2.2 i hi).1
  · rw [World.frozen?_of_block (w := w) (a := ⟨b, i, none⟩) e]; exact (h.2.2 i hi).2
theorem wr_load {ops : Array Oper} {rest : List Oper} {op : Oper} {a : Act} {w : World} {Q : Exit → Act → World → Prop} {b : Nat} {xs : List Int} (hgd : op.guard = none) (x : Operand) (ho : op.op = .load 63 x) (hx : a.eval x = .pointer (some ⟨b, 0, none⟩)) (h : Hid (R10 w b xs))
    (hk : wpList Try.prog ops Q rest (a.put op.dst (.agg (tv xs))) w) : wpList Try.prog ops Q (op :: rest) a w :=
  wpList_load_mid hgd 63 x ho b 0 hx (ints xs) _ h.out.range Try.underlying63 rfl (by rw [ints_len, h.out.1]; exact infR10) hk
theorem wr_store {ops : Array Oper} {rest : List Oper} {op : Oper} {a : Act} {w : World} {Q : Exit → Act → World → Prop} {b : Nat} {xs ys : List Int} (hgd : op.guard = none) (x y : Operand) (ho : op.op = .store 63 x y) (hx : a.eval x = .pointer (some ⟨b, 0, none⟩)) (hy : a.eval y = .agg (tv ys)) (h : Hid (R10 w b xs)) (hl : ys.length = 10)
    (hk : ∀ w', R10 w' b ys → Turn9 b w w' → wpList Try.prog ops Q rest (a.put op.dst undef) w') : wpList Try.prog ops Q (op :: rest) a w := by
  have hs : (tv ys).size = 10 := by simp [tv, ints_len, hl]
  refine wpList_store_mid hgd 63 x y ho b 0 (tv ys) hx hy (by rw [hs]; exact h.out.there) (by rw [hs]; exact infR10) (all_oneCell_toArray (fun v hv => by simp only [ints, List.mem_map] at hv; obtain ⟨x, _, rfl⟩ := hv; rfl)) ?_
  exact hk _ (h.out.stored hl) (turn_cells9 w b 0 (ints ys))
theorem res_row {fn : Func} {p : Tmp} {tmps : Array Value} {w : World} {b : Nat} {xs : List Int} (h : fn.results = #[.cell p 63]) (hp : tmps.getD p undef = .pointer (some ⟨b, 0, none⟩)) (A : R10 w b xs) : (results fn tmps).run Try.prog w = .ok (.agg (tv xs)) w := by
  have hp' : tmps[p]?.getD undef = .pointer (some ⟨b, 0, none⟩) := by simpa using hp
  simp [results, h, hp', asAddr, A.loadVar]

theorem u64 : Try.prog.underlying 63 = some (.array 10 3) := Try.underlying63
theorem guard64 : Try.prog.eqGuardType Try.prog.depth 63 = false := by kernel_rfl
theorem cells3 : Try.prog.cellsOf 3 = 1 := by kernel_rfl
theorem part_tv (xs : List Int) (w : World) {i : Nat} (hi : i < xs.length) : (part 3 (tv xs) (i * 1)).run Try.prog w = .ok (.int .i64 (xs.getD i 0)) w := by
  simp [part, isAgg, run_underlying Try.underlying3, tv, ints, hi]
theorem items_tv (d : Nat) (xs ys : List Int) (w : World) (hxy : xs.length = ys.length) : ∀ is : List Nat, (∀ i ∈ is, i < xs.length) → (Op.eqItems (d + 1) 3 1 (tv xs) (tv ys) is).run Try.prog w = .ok (is.all fun i => xs.getD i 0 == ys.getD i 0) w
  | [], _ => by simp [Op.eqItems]
  | i :: is, h => by
    have hi := h i List.mem_cons_self
    have ih := items_tv d xs ys w hxy is fun j hj => h j (List.mem_cons_of_mem _ hj)
    simp only [Op.eqItems, Sem.run_bind, part_tv xs w hi, part_tv ys w (hxy ▸ hi), Result.andThen_ok, run_equalIn_int w d 3 .i64 .i64 _ _ Try.underlying3, List.all_cons]
    cases hb : (xs.getD i 0 == ys.getD i 0)
    · simp
    · simpa using ih
theorem info3 : ∃ i, Try.prog.info? 3 = some i := by
  have h : (Try.prog.info? 3).isSome = true := by kernel_rfl
  exact Option.isSome_iff_exists.1 h
theorem neq_tv (xs ys : List Int) (w : World) (hx : xs.length = 10) (hy : ys.length = 10) {r : Bool} (hr : ((List.range 10).all fun i => xs.getD i 0 == ys.getD i 0) = r) : (binOp .neq 63 (.agg (tv xs)) (.agg (tv ys))).run Try.prog w = .ok (.bool (!r)) w := by
  obtain ⟨i, hi⟩ := info3
  rw [run_neq_struct, show (10000 : Nat) = 9999 + 1 from rfl, run_equalIn_array w 9999 (tv xs) (tv ys) u64 hi, cells3, show (9999 : Nat) = 9998 + 1 from rfl, items_tv 9998 xs ys w (hx.trans hy.symm) _ (fun j hj => by rw [hx]; exact List.mem_range.1 hj), hr]
  rfl
theorem neqg_tv (x y : Operand) (xs ys : List Int) (w : World) : (eqGuard .neq 63 x y (.agg (tv xs)) (.agg (tv ys))).run Try.prog w = .ok () w := run_eqGuard_agg w _ _ _ _ _ _ guard64
end Go.Proofs.Ytkebaklmkidfoaa
namespace Go.Proofs.Ytkebaklmkidfoaa
open Go.RowKit

theorem step_copy_run {P : Program} {w : World} {ops : Array Oper} {o : Oper} {a : Act} {K : Act → World → Prop} {Q : Exit → Act → World → Prop} {E : Prop} (hgd : o.guard = none) (d s : Operand) (t t' : TypeId)
    (ho : o.op = .call { callee := .builtin .copy, args := #[d, s], argTypes := #[t, t'] }) (vd vs : Value) (hd : a.eval d = vd) (hs : a.eval s = vs)
    (v' : Value) (w' : World) (hr : (Builtin.copy_ #[t, t'] o.type #[vd, vs]).run P w = .ok v' w') (h : K (a.put o.dst v') w') :
    if Region.wanted o (yielded ops a.tmps) = true then Oper.wp P o a w K Q else E := by
  have hw : Region.wanted o (yielded ops a.tmps) = true := by simp [Region.wanted, hgd]
  rw [if_pos hw]
  unfold Oper.wp execOp
  simp only [ho, resolve, invoke, builtin, Sem.run_bind, Sem.run_pure, Result.andThen_ok, List.map_toArray, List.map_cons, List.map_nil, hd, hs, hr]
  exact h
theorem wpList_copy_run8 {P : Program} {w : World} {ops : Array Oper} {rest : List Oper} {o : Oper} {a : Act} {Q : Exit → Act → World → Prop} (hgd : o.guard = none) (d s : Operand) (t t' : TypeId)
    (ho : o.op = .call { callee := .builtin .copy, args := #[d, s], argTypes := #[t, t'] }) (vd vs : Value) (hd : a.eval d = vd) (hs : a.eval s = vs)
    (v' : Value) (w' : World) (hr : (Builtin.copy_ #[t, t'] o.type #[vd, vs]).run P w = .ok v' w') (h : wpList P ops Q rest (a.put o.dst v') w') : wpList P ops Q (o :: rest) a w := by
  refine wpList_plain hgd fun _ hK => ?_
  unfold Oper.wp execOp
  simp only [ho, resolve, invoke, builtin, Sem.run_bind, Sem.run_pure, Result.andThen_ok, List.map_toArray, List.map_cons, List.map_nil, hd, hs, hr]
  exact hK _ _ h
end Go.Proofs.Ytkebaklmkidfoaa
namespace Go.Proofs.Ytkebaklmkidfoaa
open Go.RowKit

theorem R10.keep {w w' : World} {b : Nat} {xs : List Int} (h : R10 w b xs) (hs : w.heap.size ≤ w'.heap.size) (hb : w'.heap[b]? = w.heap[b]?) : R10 w' b xs :=
  ⟨h.1, Nat.lt_of_lt_of_le h.2.1 hs, fun i hi => ⟨(World.cell?_of_block (w := w) (a := ⟨b, i, none⟩) hb).trans (h.2.2 i hi).1, (World.frozen?_of_block (w := w) (a := ⟨b, i, none⟩) hb).trans (h.2.2 i hi).2⟩⟩
theorem z10_eq : z10 = Hu.pad [] := rfl
theorem z10_len : z10.length = 10 := rfl
/-- What is copied into a row of ten that is 0 all through. -/
theorem cp10 {w : World} {X n : Nat} {a : Option Addr} {c : Nat} {xs : List Int} (hX : w.heap[X]? = some (.cells (tv z10) 63)) (hn : xs.length = n) (h1 : 1 ≤ n) (h10 : n ≤ 10) (ha : ARow w a xs) :
    ∃ w', (∀ ty, (Builtin.copy_ #[25, 25] ty #[.slice (some ⟨X, 0, none⟩) 10 10, .slice a n c]).run Try.prog w = .ok (.int .i64 (n : Int)) w') ∧ R10 w' X (Hu.pad xs) ∧ w.grownBy w' (some X) := by
  rcases ha with h | ⟨b, off, rfl, hb, hc⟩
  · rw [h] at hn; simp at hn; omega
  have hsz : (Try.prog.info? 3).map (·.size) = some 1 := by kernel_rfl
  have hrun := fun ty => run_copy_row (P := Try.prog) w 25 25 ty 3 X 0 10 10 ⟨b, off, none⟩ n c (tv z10) 63 (ints xs) Try.underlying25 hsz hX (by rw [ints_len, hn]; simp only [Nat.min_def]; split <;> omega) (fun i v hi => by
    have hij : i < xs.length := by have := (List.getElem?_eq_some_iff.1 hi).1; rwa [ints_len] at this
    rw [ints_get xs i hij] at hi
    cases hi
    rw [add_plain']
    exact hc i hij) (by rw [ints_len, hn]; show 0 + n ≤ 10; omega) (c_ints _)
  have e : ((tv z10).toList.take 0 ++ ints xs ++ (tv z10).toList.drop (0 + (ints xs).length)) = ints (Hu.pad xs) := by
    rw [ints_len, ← Hu.pad_eq (by omega)]
    have : (tv z10).toList = ints (List.replicate 10 0) := rfl
    rw [this, List.take_zero, List.nil_append, Nat.zero_add]
    unfold ints
    rw [← List.map_drop, ← List.map_append, List.drop_replicate]
  rw [e, ints_len, hn] at hrun
  refine ⟨w.setRow X (tv (Hu.pad xs)), hrun, ?_, ⟨rfl, rfl, rfl, by simp [World.setRow], fun k _ hne => setRow_other w X k _ (by simpa using hne)⟩⟩
  have hh : (w.setRow X (tv (Hu.pad xs))).heap[X]? = some (.cells (tv (Hu.pad xs)) 63) := setRow_heap w X _ _ _ _ hX
  refine ⟨Hu.pad_len _, by have := (Array.getElem?_eq_some_iff.1 hX).1; simpa [World.setRow] using this, fun i hi => ⟨?_, ?_⟩⟩
  · rw [cell_of_row _ _ _ _ _ _ hh, tv]
    have := ints_get (Hu.pad xs) i (by rw [Hu.pad_len]; exact hi)
    simpa using this
  · unfold World.frozen?; rw [hh]; simp
set_option maxRecDepth 100000 in
set_option maxHeartbeats 2000000 in
theorem ro_any {a : Option Addr} {n c : Nat} {xs : List Int} {w : World} (hn : xs.length = n) (h1 : 1 ≤ n) (h10 : n ≤ 10) (ha : ARow w a xs) :
    Calls Try.prog 38 #[.slice a n c] w fun e w' => e = .returned (.agg (tv (Hu.pad xs))) ∧ Below w.heap.size w w' := by
  obtain ⟨Z, hZ⟩ : ∃ Z, Z = Obj.cells (tv z10) 63 := ⟨_, rfl⟩
  have bn1 := below_new w Z
  have bn2 := below_new (w.alloc Z) Z
  have A1 := (R10.new w z10 rfl 63)
  rw [← hZ] at A1
  obtain ⟨w2, hr, A2, hg⟩ := cp10 (w := (w.alloc Z).alloc Z) (X := (w.alloc Z).heap.size) (c := c) (by rw [heap_alloc_last, hZ]) hn h1 h10 ((ha.alloc _).alloc _)
  have hB2 : Below (w.heap.size + 1) ((w.alloc Z).alloc Z) w2 := grown_below' hg (by simp) (by simp)
  have HA2 := hide A2
  have HA1 := hide ((A1.below bn2).keep hB2.size (hB2.block _ (by omega)))
  have hB := (bn1.trans (bn2.mono (by simp))).trans (hB2.mono (by omega))
  rw [World.size_alloc] at HA2 hr
  clear A1 A2 bn1 bn2 hB2 hg ha
  have hZ' : Obj.cells #[.int .i64 0, .int .i64 0, .int .i64 0, .int .i64 0, .int .i64 0, .int .i64 0, .int .i64 0, .int .i64 0, .int .i64 0, .int .i64 0] 63 = Z := hZ.symm
  clear hZ
  go_enter Try.func38, Try.ntmps38
  go_wp2_with (first | (at_builtin; refine wpList_copy_run8 rfl _ _ _ _ rfl _ _ rfl rfl _ _ (hr _) ?_) | (refine wr_load rfl _ rfl rfl HA2 ?_) | (refine wr_store rfl _ _ rfl rfl rfl HA1 (Hu.pad_len _) ?_; intro w3 A3 T3))
  exact bodyPost_ret (v := .agg (tv (Hu.pad xs))) (res_row Try.results38 rfl A3) rfl ⟨rfl, hB.trans (T3.2.1 _ (by omega))⟩
set_option maxRecDepth 100000 in
set_option maxHeartbeats 4000000 in
theorem le_any {xs ys : List Int} {w : World} (hx : xs.length = 10) (hy : ys.length = 10) :
    Calls Try.prog 37 #[.agg (tv xs), .agg (tv ys)] w fun e w' => e = .returned (.agg (tv (Hu.minR xs ys))) ∧ Below w.heap.size w w' := by
  have HX := hide (R10.new w xs hx 63)
  have HY := hide (R10.new (w.alloc (.cells (tv xs) 63)) ys hy 63)
  have HZ := hide (z10_new ((w.alloc (.cells (tv xs) 63)).alloc (.cells (tv ys) 63)) 63)
  generalize tv xs = X at *
  generalize tv ys = Y at *
  go_enter Try.func37, Try.ntmps37
  go_wp2_with fail
  go_loopw [5, 6] (fun _ s wr => ∃ (k : Nat) (zs : List Int), s = .int .i64 k ∧ k ≤ 10 ∧ Hid (R10 wr w.heap.size zs) ∧ Hid (R10 wr (w.heap.size + 1) ys) ∧ Hid (R10 wr (w.heap.size + 1 + 1) z10) ∧ Hid (∀ i, i < 10 → zs.getD i 0 = if i < k then min (xs.getD i 0) (ys.getD i 0) else xs.getD i 0) ∧ Hid (Below w.heap.size w wr)) (fun _ s _ => 10 - (intOf s).toNat)
  case atStart => exact ⟨0, xs, rfl, Nat.zero_le _, hide ((HX.out.below (below_new _ _)).below (below_new _ _)), hide (by have := HY.out.below (below_new _ (.cells #[.int .i64 0, .int .i64 0, .int .i64 0, .int .i64 0, .int .i64 0, .int .i64 0, .int .i64 0, .int .i64 0, .int .i64 0, .int .i64 0] 63)); simpa using this), hide (by have := HZ.out; simpa using this), hide fun i hi => by simp, hide (((below_new _ _).trans ((below_new _ _).mono (by simp))).trans ((below_new _ _).mono (by simp; omega)))⟩
  case round =>
    obtain ⟨k, zs, rfl, hk, HX1, HY1, HZ1, HD, HB⟩ := hrel
    by_cases hlt : k < 10
    · have i0 : (0 : Int) ≤ (k : Int) := by omega
      have i1 : (k : Int) < 10 := by omega
      have c0 := (HX1.out.2.2 k hlt).1
      have f0 := (HX1.out.2.2 k hlt).2
      have c1 := (HY1.out.2.2 k hlt).1
      rw [HD.out k hlt, if_neg (by omega)] at c0
      have HSET : Hid (∀ i, i < 10 → (zs.set k (min (xs.getD k 0) (ys.getD k 0))).getD i 0 = if i < k + 1 then min (xs.getD i 0) (ys.getD i 0) else xs.getD i 0) := hide fun i hi => by
        rw [Hu.set_get9 _ _ _ _ (by have := HX1.out.1; omega)]
        by_cases e : i = k
        · subst e; simp
        · rw [if_neg e, HD.out i hi]
          by_cases q : i < k
          · rw [if_pos q, if_pos (by omega)]
          · rw [if_neg q, if_neg (by omega)]
      have HST := hide (HX1.out.set k (min (xs.getD k 0) (ys.getD k 0)) hlt)
      have HYT := hide (HY1.out.other (b' := w.heap.size) (k := k) (v := .int .i64 (min (xs.getD k 0) (ys.getD k 0))) (by omega))
      have HZT := hide (HZ1.out.other (b' := w.heap.size) (k := k) (v := .int .i64 (min (xs.getD k 0) (ys.getD k 0))) (by omega))
      have HBT := hide (HB.out.setCell (p := ⟨w.heap.size, k, none⟩) (Nat.le_refl _) (.int .i64 (min (xs.getD k 0) (ys.getD k 0))))
      generalize xs.getD k 0 = x at *
      generalize ys.getD k 0 = y at *
      have hmin : (if y < x then y else x) = min x y := by omega
      go_wp2_with fail
      go_region
      go_wp2_with fail
      go_roundw
      case rel => exact ⟨k + 1, zs.set k (min x y), by go_num, by omega, HST, HYT, HZT, HSET, hide HBT.out.drew⟩
      case measure => simp only [intOf]; omega
    · have hke : k = 10 := by omega
      subst hke
      have HE := hide (Hu.ext10 HX1.out.1 (Hu.minR_len xs ys) (fun i hi => by rw [HD.out i hi, if_pos hi, Hu.minR_get _ _ hi]))
      rw [HE.out] at HX1
      go_wp2_with (first | (refine wr_load rfl _ rfl rfl HX1 ?_) | (refine wr_store rfl _ _ rfl rfl rfl HZ1 (Hu.minR_len _ _) ?_; intro w2 A2 T2))
      exact bodyPost_ret (v := .agg (tv (Hu.minR xs ys))) (res_row Try.results37 rfl A2) rfl ⟨rfl, HB.out.trans (T2.2.1 _ (by omega))⟩
set_option maxRecDepth 100000 in
set_option maxHeartbeats 4000000 in
theorem bp_any {a b : Option Addr} {n m c d i : Nat} {us vs : List Int} {w : World} (hn : us.length = n) (hm : vs.length = m) (m1 : 1 ≤ m) (m10 : m ≤ 10) (hi : i < n) (gu : Pf.allB us (-100000) 100000 = true) (gv : Pf.allB vs (-100000) 100000 = true) (ha : ARow w a us) (hb : ARow w b vs) :
    Calls Try.prog 36 #[.agg #[.slice a n c, .slice b m d], .int .i64 (i : Int)] w fun e w' => e = .returned (.agg (tv (Hu.bothR us vs i))) ∧ Below w.heap.size w w' := by
  have HA := hide ha
  have HB := hide hb
  have HM := hide hm
  have HN := hide hn
  obtain ⟨x, hx⟩ : ∃ x, x = us.getD i 0 := ⟨_, rfl⟩
  have bx := Pf.inB_yes (Pf.allB_get gu (show i < us.length by omega))
  rw [← hx] at bx
  have HV := hide fun (k : Nat) (hk : k < m) => Pf.inB_yes (Pf.allB_get gv (show k < vs.length by omega))
  have HE : Hid (∀ k, k < 10 → Hu.bothAt us vs i k = if k < m then vs.getD k 0 + x else 0) := hide fun k hk => by rw [Hu.bothAt, hm, ← hx]
  have HPD : Hid (∀ k, m ≤ k → vs.getD k 0 = 0) := hide fun k hk => by rw [List.getD_eq_getElem?_getD, List.getElem?_eq_none (by omega)]; rfl
  have HXX := hide hx
  clear ha hb hm hn gu gv hx
  go_enter Try.func36, Try.ntmps36
  go_wp2_with fail
  refine (ro_any HM.out m1 m10 ((HB.out.alloc _).alloc _)).mono ?_
  rintro e w1 ⟨rfl, hb1⟩
  have bnA := below_new w (.cells #[.slice a n c, .slice b m d] 27)
  have bnB := below_new (w.alloc (.cells #[.slice a n c, .slice b m d] 27)) (.cells #[.int .i64 0, .int .i64 0, .int .i64 0, .int .i64 0, .int .i64 0, .int .i64 0, .int .i64 0, .int .i64 0, .int .i64 0, .int .i64 0] 63)
  have hBw : Below w.heap.size w w1 := (bnA.trans (bnB.mono (by simp))).trans (hb1.mono (by simp; omega))
  have P1 := hide (((PBox.new w (.slice a n c) (.slice b m d) 27).below bnB).below hb1)
  have Z1 := hide ((z10_new (w.alloc (.cells #[.slice a n c, .slice b m d] 27)) 63).below hb1)
  rw [World.size_alloc] at Z1
  have hs1 : w.heap.size + 1 < w1.heap.size := by have := hb1.size; simp at this; omega
  clear hb1 bnA bnB
  go_wp2_with (refine wr_store rfl _ _ rfl rfl rfl (hide (z10_new _ _)) (Hu.pad_len _) ?_; intro w2 A2 T2; have hb2 := (below_new w1 _).trans (T2.2.1 _ (Nat.le_refl _)); clear T2; obtain ⟨p0, p1, p2⟩ := P1.out.below hb2)
  have HA2 := hide A2
  have HZ2 := hide (Z1.out.below hb2)
  have HB2 := hide (hBw.trans (hb2.mono hBw.size))
  have HP2 : Hid (PBox w2 w.heap.size (.slice a n c) (.slice b m d)) := hide ⟨p0, p1, p2⟩
  have hw12 : w1.heap.size < w2.heap.size := A2.2.1
  obtain ⟨R, hR⟩ : ∃ R, R = w1.heap.size := ⟨_, rfl⟩
  rw [← hR] at HA2 hs1 hw12 ⊢
  clear A2 hb2 P1 Z1 hBw p0 p1 p2 hR
  go_loopw [6, 13] (fun _ s wr => ∃ (k : Nat) (zs : List Int), s = .int .i64 k ∧ k ≤ m ∧ Hid (R10 wr R zs) ∧ Hid (R10 wr (w.heap.size + 1) z10) ∧ Hid (PBox wr w.heap.size (.slice a n c) (.slice b m d)) ∧ Hid (∀ j, j < 10 → zs.getD j 0 = if j < k then vs.getD j 0 + x else vs.getD j 0) ∧ Hid (Below w.heap.size w wr) ∧ R < wr.heap.size) (fun _ s _ => m - (intOf s).toNat)
  case atStart => exact ⟨0, Hu.pad vs, rfl, Nat.zero_le _, HA2, HZ2, HP2, hide fun j hj => by rw [Hu.pad_get _ hj]; simp, HB2, hw12⟩
  case round =>
    clear HA2 HZ2 HP2 HB2 hw12
    obtain ⟨k, zs, rfl, hk, HX1, HZ1, HP1, HD, HB1, hRz⟩ := hrel
    by_cases hlt : k < m
    · have i0 : (0 : Int) ≤ (k : Int) := by omega
      have i1 : (k : Int) < 10 := by omega
      have i2 : (k : Int) < (m : Int) := by omega
      have k10 : k < 10 := by omega
      have j0 : (0 : Int) ≤ (i : Int) := by omega
      have j1 : (i : Int) < (n : Int) := by omega
      have c0 := (HX1.out.2.2 k k10).1
      have f0 := (HX1.out.2.2 k k10).2
      rw [HD.out k k10, if_neg (by omega)] at c0
      obtain ⟨p0, p1, p2⟩ := HP1.out
      obtain ⟨bu, ou, rfl, ru⟩ := (HA.out.below HB1.out).at (i := i) (by rw [HN.out]; exact hi)
      rw [← HXX.out] at ru
      have bv := HV.out k hlt
      have HSET : Hid (∀ j, j < 10 → (zs.set k (vs.getD k 0 + x)).getD j 0 = if j < k + 1 then vs.getD j 0 + x else vs.getD j 0) := hide fun j hj => by
        rw [Hu.set_get9 _ _ _ _ (by have := HX1.out.1; omega)]
        by_cases e : j = k
        · subst e; simp
        · rw [if_neg e, HD.out j hj]
          by_cases q : j < k
          · rw [if_pos q, if_pos (by omega)]
          · rw [if_neg q, if_neg (by omega)]
      generalize vs.getD k 0 = y at *
      have HST := hide (HX1.out.set k (y + x) k10)
      have HZT := hide (HZ1.out.other (b' := R) (k := k) (v := .int .i64 (y + x)) (by omega))
      have HPT : Hid (PBox (wr.setCell ⟨R, k, none⟩ (.int .i64 (y + x))) w.heap.size (.slice (some ⟨bu, ou, none⟩) n c) (.slice b m d)) := hide ⟨(World.cell?_setCell_other _ _ _ _ (by intro e; cases e; omega)).trans p0, (World.cell?_setCell_other _ _ _ _ (by intro e; cases e; omega)).trans p1, by simpa using p2⟩
      have HBT := hide (HB1.out.setCell (p := ⟨R, k, none⟩) (by show w.heap.size ≤ R; omega) (.int .i64 (y + x)))
      have w1 : IntKind.i64.wrap (y + x) = y + x := by rw [IntKind.wrap_i64]; omega
      go_wp2_with fail
      go_region
      go_wp2_with fail
      go_roundw
      case rel => exact ⟨k + 1, zs.set k (y + x), by go_num, by omega, HST, HZT, HPT, HSET, hide HBT.out.drew, by simpa using hRz⟩
      case measure => simp only [intOf]; omega
    · have hke : k = m := by omega
      subst hke
      have HE : Hid (zs = Hu.bothR us vs i) := hide (Hu.ext10 HX1.out.1 (Hu.bothR_len us vs i) (fun j hj => by
        rw [HD.out j hj, Hu.bothR_get _ _ _ hj, HE.out j hj]
        by_cases q : j < k
        · rw [if_pos q, if_pos q]
        · rw [if_neg q, if_neg q]; exact HPD.out j (by omega)))
      rw [HE.out] at HX1
      go_wp2_with (first | (refine wr_load rfl _ rfl rfl HX1 ?_) | (refine wr_store rfl _ _ rfl rfl rfl HZ1 (Hu.bothR_len _ _ _) ?_; intro w3 A3 T3))
      exact bodyPost_ret (v := .agg (tv (Hu.bothR us vs i))) (res_row Try.results36 rfl A3) rfl ⟨rfl, HB1.out.trans (T3.2.1 _ (by omega))⟩
end Go.Proofs.Ytkebaklmkidfoaa
