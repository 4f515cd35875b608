/-
  Plain facts, of no program: the cheapest fit, load by load; it costs as much as its prices together, and no order costs less (Egervary).
-/
import Derived.Test.YtcniegaogdggaaaKa
namespace Go.Proofs.Ytcniegaogdggaaa.Hu

def run (c : List (List Int)) (n : Nat) (o : Fn) (L : Nat) : Nat → Sk → Sk
  | 0, S => S
  | k + 1, S => if nx o L S.la < 0 then S else run c n o L k (step c n o L S)
/-- All of 0 up to n - 1 are in a list of n of them, no two alike. -/
theorem all_in {l : List Nat} {n : Nat} (hl : n ≤ l.length) (hd : l.Nodup) (hb : ∀ x ∈ l, x < n) : ∀ k, k < n → k ∈ l := by
  intro k hk
  apply Classical.byContradiction
  intro hn
  have : (k :: l).Nodup := List.nodup_cons.2 ⟨hn, hd⟩
  have := this.length_le_of_subset (l₂ := List.range n) (fun x hx => by
    rcases List.mem_cons.1 hx with rfl | hx
    · simpa using hk
    · simpa using hb x hx)
  simp at this
  omega
theorem In.run {c : List (List Int)} {n : Nat} {o : Fn} {L : Nat} (hc : Good c n) (ho : Ow n o L) (hL : L < n) : ∀ (k : Nat) {S : Sk} {g : List Nat}, In c n o L S g → n ≤ g.length + k → ∃ g', In c n o L (run c n o L k S) g' ∧ nx o L (run c n o L k S).la < 0
  | 0, S, g, h, hk => by
    refine ⟨g, h, ?_⟩
    obtain ⟨z, hz, hzf⟩ := ho.free hL
    have hm := all_in (n := n) (by omega) h.nd h.gb z hz
    cases g with
    | nil => cases hm
    | cons d r =>
      show nx o L S.la < 0
      rw [h.la]
      rcases List.mem_cons.1 hm with rfl | hm
      · have : ¬ ((z : Int) < 0) := by omega
        simpa [nx, lastOf, this] using hzf
      · have := h.own z hm; omega
  | k + 1, S, g, h, hk => by
    by_cases hx : nx o L S.la < 0
    · refine ⟨g, ?_⟩
      rw [Hu.run, if_pos hx]
      exact ⟨h, hx⟩
    · rw [Hu.run, if_neg hx]
      obtain ⟨_, _, _, _, _, h'⟩ := h.step hc ho hL (by omega)
      exact In.run hc ho hL k h' (by simp; omega)

/-- The bins on the way back each get the load from which they were seen. -/
def back (fr : Fn) (L : Nat) : Nat → Fn → Int → Fn
  | 0, o, _ => o
  | k + 1, o, b => if b < 0 then o else back fr L k (upd o b.toNat (if fr b.toNat < 0 then (L : Int) else o (fr b.toNat).toNat)) (fr b.toNat)
/-- Owners with a bin h left out. -/
structure Ho (c : List (List Int)) (n : Nat) (L : Nat) (u v o : Fn) (h : Nat) : Prop where
  is : ∀ b, b < n → b ≠ h → o b = -1 ∨ (0 ≤ o b ∧ o b < (L : Int))
  inj : ∀ b, b < n → ∀ d, d < n → b ≠ h → d ≠ h → 0 ≤ o b → o b = o d → b = d
  sur : ∀ i, i < L → ∃ b, b < n ∧ b ≠ h ∧ o b = (i : Int)
  ti : ∀ b, b < n → b ≠ h → 0 ≤ o b → u (o b).toNat + v b = ct c (o b).toNat b
  vz : ∀ b, b < n → b ≠ h → o b < 0 → v b = 0
theorem back_end {c : List (List Int)} {n : Nat} {o0 : Fn} {L : Nat} {u v fr : Fn} (ho : Ow n o0 L) (hL : L < n) : ∀ (k : Nat) {o : Fn} {h : Nat} {r : List Nat},
    (∀ b, b ∈ h :: r → b < n) → (h :: r).Nodup → (∀ b, b ∈ r → o b = o0 b ∧ 0 ≤ o0 b) → Ho c n L u v o h →
    (∀ b s, (b :: s) <:+ (h :: r) → PR s (fr b) ∧ u (ld o0 L (fr b)) + v b = ct c (ld o0 L (fr b)) b) → r.length + 2 ≤ k →
    Ow n (back fr L k o (h : Int)) (L + 1) ∧ (∀ b, b < n → 0 ≤ back fr L k o (h : Int) b → u (back fr L k o (h : Int) b).toNat + v b = ct c (back fr L k o (h : Int) b).toNat b) ∧ (∀ b, b < n → back fr L k o (h : Int) b < 0 → v b = 0)
  | 0, _, _, _, _, _, _, _, _, hk => by omega
  | 1, _, _, _, _, _, _, _, _, hk => by omega
  | k + 2, o, h, r, hb, hnd, hr, hh, hch, hk => by
    have hn0 : ¬ ((h : Int) < 0) := by omega
    have hhn := hb h List.mem_cons_self
    obtain ⟨hp, ht⟩ := hch h r (List.suffix_refl _)
    rw [back, if_neg hn0]
    simp only [Int.toNat_natCast]
    rcases hp with e | ⟨f, hf, e⟩
    · rw [e, if_pos (by omega), back, if_pos (by omega)]
      have hld : ld o0 L (fr h) = L := by rw [e]; simp [ld]
      rw [hld] at ht
      refine ⟨⟨fun b hb' => ?_, fun b hb' d hd hob heq => ?_, fun i hi => ?_⟩, fun b hb' hob => ?_, fun b hb' hob => ?_⟩
      · by_cases hbh : b = h
        · subst hbh; rw [upd_same]; omega
        · rw [upd_else _ _ hbh]; rcases hh.is b hb' hbh with e | e <;> omega
      · by_cases hbh : b = h
        · by_cases hdh : d = h
          · omega
          · subst hbh
            rw [upd_same, upd_else _ _ hdh] at heq
            rcases hh.is d hd hdh with e | e <;> omega
        · by_cases hdh : d = h
          · subst hdh
            rw [upd_same, upd_else _ _ hbh] at heq
            rcases hh.is b hb' hbh with e | e <;> omega
          · rw [upd_else _ _ hbh, upd_else _ _ hdh] at heq
            rw [upd_else _ _ hbh] at hob
            exact hh.inj b hb' d hd hbh hdh hob heq
      · by_cases hiL : i = L
        · subst hiL; exact ⟨h, hhn, upd_same _ _ _⟩
        · obtain ⟨b, hb', hbh, e⟩ := hh.sur i (by omega)
          exact ⟨b, hb', by rw [upd_else _ _ hbh]; exact e⟩
      · by_cases hbh : b = h
        · subst hbh; rw [upd_same]; simpa using ht
        · rw [upd_else _ _ hbh] at hob ⊢; exact hh.ti b hb' hbh hob
      · by_cases hbh : b = h
        · subst hbh; rw [upd_same] at hob; omega
        · rw [upd_else _ _ hbh] at hob; exact hh.vz b hb' hbh hob
    · have hf0 : ¬ ((f : Int) < 0) := by omega
      rw [e, if_neg hf0, Int.toNat_natCast]
      have hfn := hb f (List.mem_cons_of_mem _ hf)
      have hfh : f ≠ h := fun e => by subst e; exact (List.nodup_cons.1 hnd).1 hf
      obtain ⟨s, t, hst⟩ := List.append_of_mem hf
      have hsuf : (f :: t) <:+ r := ⟨s, hst.symm⟩
      have hld : ld o0 L (fr h) = (o0 f).toNat := by rw [e]; simp only [ld, if_neg hf0, Int.toNat_natCast]
      rw [hld] at ht
      obtain ⟨hof, hof0⟩ := hr f hf
      have htr : ∀ b, b ∈ t → b ∈ r := fun b hb' => hsuf.subset (List.mem_cons_of_mem _ hb')
      have hlen : t.length < r.length := by rw [hst]; simp; omega
      refine back_end ho hL (k + 1) (r := t) ?_ ?_ ?_ ?_ ?_ (by omega)
      · intro b hb'
        exact hb b (List.mem_cons_of_mem _ (hsuf.subset hb'))
      · exact ((List.nodup_cons.1 hnd).2).sublist hsuf.sublist
      · intro b hb'
        have hbr := htr b hb'
        have : b ≠ h := fun e => by subst e; exact (List.nodup_cons.1 hnd).1 hbr
        rw [upd_else _ _ this]
        exact hr b hbr
      · refine ⟨fun b hb' hbf => ?_, fun b hb' d hd hbf hdf hob heq => ?_, fun i hi => ?_, fun b hb' hbf hob => ?_, fun b hb' hbf hob => ?_⟩
        · by_cases hbh : b = h
          · subst hbh; rw [upd_same]; exact hh.is f hfn hfh
          · rw [upd_else _ _ hbh]; exact hh.is b hb' hbh
        · by_cases hbh : b = h
          · by_cases hdh : d = h
            · omega
            · subst hbh
              rw [upd_same, upd_else _ _ hdh] at heq
              rw [upd_same] at hob
              exact absurd (hh.inj f hfn d hd hfh hdh hob heq).symm hdf
          · by_cases hdh : d = h
            · subst hdh
              rw [upd_same, upd_else _ _ hbh] at heq
              rw [upd_else _ _ hbh] at hob
              exact absurd (hh.inj b hb' f hfn hbh hfh hob heq) hbf
            · rw [upd_else _ _ hbh, upd_else _ _ hdh] at heq
              rw [upd_else _ _ hbh] at hob
              exact hh.inj b hb' d hd hbh hdh hob heq
        · obtain ⟨b, hb', hbh, e2⟩ := hh.sur i hi
          by_cases hbf : b = f
          · subst hbf; exact ⟨h, hhn, fun e => hfh e.symm, by rw [upd_same]; exact e2⟩
          · exact ⟨b, hb', hbf, by rw [upd_else _ _ hbh]; exact e2⟩
        · by_cases hbh : b = h
          · subst hbh; rw [upd_same, hof]; exact ht
          · rw [upd_else _ _ hbh] at hob ⊢; exact hh.ti b hb' hbh hob
        · by_cases hbh : b = h
          · subst hbh; rw [upd_same, hof] at hob; omega
          · rw [upd_else _ _ hbh] at hob; exact hh.vz b hb' hbh hob
      · intro b q hq
        exact hch b q (List.IsSuffix.trans (List.IsSuffix.trans hq hsuf) (List.suffix_cons _ _))

/-- Owners, prices of loads, prices of bins. -/
structure Tri where
  o : Fn
  u : Fn
  v : Fn
def seek (c : List (List Int)) (n L : Nat) (T : Tri) : Tri where
  o := back (run c n T.o L n (start T.u T.v)).fr L (n + 1) T.o (run c n T.o L n (start T.u T.v)).la
  u := (run c n T.o L n (start T.u T.v)).u
  v := (run c n T.o L n (start T.u T.v)).v
def fitTo (c : List (List Int)) (n : Nat) : Nat → Tri
  | 0 => ⟨fun _ => -1, fun _ => 0, fun _ => 0⟩
  | k + 1 => seek c n k (fitTo c n k)
structure Ou (c : List (List Int)) (n L : Nat) (T : Tri) : Prop where
  ow : Ow n T.o L
  pr : Pr c n T.o T.u T.v
  ub : ∀ i, i < n → T.u i ≤ 100
theorem Ou.vl {c : List (List Int)} {n L : Nat} {T : Tri} (hc : Good c n) (hL : L ≤ n) (h : Ou c n L T) : ∀ b, b < n → -100 ≤ T.v b ∧ T.v b ≤ 0 := by
  intro b hb
  refine ⟨?_, h.pr.vn b hb⟩
  rcases h.ow.is b hb with e | e
  · have := h.pr.vz b hb (by omega); omega
  · have h1 := h.pr.ti b hb e.1
    have h2 := h.ub (T.o b).toNat (by omega)
    have h3 := (hc.cl (T.o b).toNat (by omega) b hb).1
    omega
theorem Ou.seek {c : List (List Int)} {n L : Nat} {T : Tri} (hc : Good c n) (hL : L < n) (h : Ou c n L T) : Ou c n (L + 1) (seek c n L T) := by
  obtain ⟨g, hg, hx⟩ := (In.start (L := L) h.pr).run hc h.ow hL n (by simp)
  generalize hS : run c n T.o L n (start T.u T.v) = S at *
  obtain ⟨z, hz, hzf⟩ := h.ow.free hL
  have hub := hg.pr.ub hc hz hzf
  cases g with
  | nil =>
    rw [hg.la] at hx
    simp [nx, lastOf] at hx
    omega
  | cons d r =>
    have hla : S.la = (d : Int) := hg.la
    have hdn := hg.gb d List.mem_cons_self
    have hdf : T.o d < 0 := by
      have : ¬ ((d : Int) < 0) := by omega
      rw [hla] at hx
      simpa [nx, this] using hx
    have hlen : (d :: r).length ≤ n := by
      have := hg.nd.length_le_of_subset (l₂ := List.range n) (fun x hx => List.mem_range.2 (hg.gb x hx))
      simpa using this
    have hh : Ho c n L S.u S.v T.o d := by
      refine ⟨fun b hb _ => h.ow.is b hb, fun b hb e he _ _ hob heq => h.ow.inj b hb e he hob heq, fun i hi => ?_, fun b hb _ hob => hg.pr.ti b hb hob, fun b hb _ hob => hg.pr.vz b hb hob⟩
      obtain ⟨b, hb, e⟩ := h.ow.sur i hi
      exact ⟨b, hb, fun e' => by subst e'; omega, e⟩
    obtain ⟨h1, h2, h3⟩ := back_end (k := n + 1) (u := S.u) (v := S.v) (fr := S.fr) (c := c) h.ow hL hg.gb hg.nd (fun b hb => ⟨rfl, hg.own b hb⟩) hh hg.ch (by simp at hlen; omega)
    have eo : (Hu.seek c n L T).o = back S.fr L (n + 1) T.o (d : Int) := by rw [Hu.seek, hS, hla]
    have eu : (Hu.seek c n L T).u = S.u := by rw [Hu.seek, hS]
    have ev : (Hu.seek c n L T).v = S.v := by rw [Hu.seek, hS]
    refine ⟨?_, ?_, ?_⟩
    · rw [eo]; exact h1
    · rw [eo, eu, ev]
      exact ⟨hg.pr.fe, h2, hg.pr.vn, h3, hg.pr.up⟩
    · rw [eu]; exact hub
theorem fit_ou {c : List (List Int)} {n : Nat} (hc : Good c n) : ∀ k, k ≤ n → Ou c n k (fitTo c n k)
  | 0, _ => by
    refine ⟨⟨fun b _ => Or.inl rfl, fun b _ d _ h _ => ?_, fun i hi => absurd hi (Nat.not_lt_zero _)⟩, ⟨fun i hi b hb => ?_, fun b _ h => ?_, fun b _ => Int.le_refl _, fun b _ _ => rfl, fun i _ => Int.le_refl _⟩, fun i _ => ?_⟩
    · simp [fitTo] at h
    · have := (hc.cl i hi b hb).1
      simpa [fitTo] using this
    · simp [fitTo] at h
    · simp [fitTo]
  | k + 1, hk => (fit_ou hc k (by omega)).seek hc (by omega)
/-- The bin of a load. -/
def binOf (o : Fn) (n : Nat) (i : Nat) : Nat := ((List.range n).find? fun b => decide (o b = (i : Int))).getD 0
theorem binOf_is {n : Nat} {o : Fn} {L : Nat} (h : Ow n o L) {i : Nat} (hi : i < L) : binOf o n i < n ∧ o (binOf o n i) = (i : Int) := by
  obtain ⟨b, hb, e⟩ := h.sur i hi
  unfold binOf
  cases hf : (List.range n).find? fun b => decide (o b = (i : Int)) with
  | none =>
    have := List.find?_eq_none.1 hf b (List.mem_range.2 hb)
    simp [e] at this
  | some d =>
    have h1 := List.find?_some hf
    have h2 := List.mem_of_find?_eq_some hf
    exact ⟨List.mem_range.1 h2, by simpa using h1⟩
theorem binOf_eq {n : Nat} {o : Fn} {L : Nat} (h : Ow n o L) {i b : Nat} (hb : b < n) (e : o b = (i : Int)) : binOf o n i = b := by
  have hi : i < L := by rcases h.is b hb with e' | e' <;> omega
  obtain ⟨h1, h2⟩ := binOf_is h hi
  exact h.inj _ h1 b hb (by omega) (by rw [h2, e])
def tab (n : Nat) (f : Fn) : List Int := (List.range n).map f
theorem tab_len (n : Nat) (f : Fn) : (tab n f).length = n := by simp [tab]
theorem tab_get (f : Fn) {n i : Nat} (h : i < n) : (tab n f).getD i 0 = f i := by simp [tab, h]
def fitL (c : List (List Int)) (n : Nat) : List Int := tab n fun i => (binOf (fitTo c n n).o n i : Int)
def loadsL (c : List (List Int)) (n : Nat) : List Int := tab n (fitTo c n n).u
def binsL (c : List (List Int)) (n : Nat) : List Int := tab n (fitTo c n n).v
theorem fit_ord {c : List (List Int)} {n : Nat} (hc : Good c n) : Od.ordB (fitL c n) n = true := by
  have h := (fit_ou hc n (Nat.le_refl _)).ow
  refine Od.ordB_iff.2 ⟨tab_len _ _, fun i hi => ?_, fun i j hi hj e => ?_⟩
  · have := (binOf_is h hi).1
    rw [fitL, tab_get _ hi]; omega
  · rw [fitL, tab_get _ hi, tab_get _ hj] at e
    have h1 := (binOf_is h hi).2
    have h2 := (binOf_is h hj).2
    have e' : binOf (fitTo c n n).o n i = binOf (fitTo c n n).o n j := by omega
    rw [e'] at h1
    omega
/-- What an order costs over the first k loads. -/
def costTo (c : List (List Int)) (os : List Int) : Nat → Int
  | 0 => 0
  | k + 1 => costTo c os k + ct c k (Od.nth os k)
def sumTo (f : Fn) : Nat → Int
  | 0 => 0
  | k + 1 => sumTo f k + f k
theorem sum_perm {l m : List Int} (h : l.Perm m) : l.sum = m.sum := by
  induction h with
  | nil => rfl
  | cons x _ ih => simp only [List.sum_cons, ih]
  | swap x y l => simp only [List.sum_cons]; omega
  | trans _ _ ih1 ih2 => exact ih1.trans ih2
theorem sumTo_range (f : Fn) : ∀ k, sumTo f k = ((List.range k).map f).sum
  | 0 => rfl
  | k + 1 => by rw [sumTo, sumTo_range f k, List.range_succ, List.map_append, List.sum_append]; simp
theorem perm_range {l : List Nat} {n : Nat} (hl : l.length = n) (hd : l.Nodup) (hb : ∀ x ∈ l, x < n) : l.Perm (List.range n) := by
  have all := all_in (n := n) (by omega) hd hb
  rw [List.perm_iff_count]
  intro a
  rw [hd.count, List.nodup_range.count]
  by_cases h : a < n
  · rw [if_pos (all a h), if_pos (by simpa using h)]
  · rw [if_neg (fun hm => h (hb a hm)), if_neg (by simpa using h)]
/-- A sum over all does not hang on the order. -/
theorem sum_ord {os : List Int} {n : Nat} (h : Od.ordB os n = true) (f : Fn) : sumTo (fun i => f (Od.nth os i)) n = sumTo f n := by
  rw [sumTo_range, sumTo_range]
  have e : ((List.range n).map fun i => f (Od.nth os i)) = ((List.range n).map (Od.nth os)).map f := by simp
  rw [e]
  refine sum_perm ?_
  refine List.Perm.map f ?_
  obtain ⟨hl, h1, h2⟩ := Od.ordB_iff.1 h
  refine perm_range (by simp) ?_ ?_
  · rw [List.nodup_iff_pairwise_ne, List.pairwise_map]
    refine List.Pairwise.imp_of_mem ?_ (List.nodup_iff_pairwise_ne.1 List.nodup_range)
    intro a b ha hb hab e
    have ha' := List.mem_range.1 ha
    have hb' := List.mem_range.1 hb
    exact hab (h2 a b ha' hb' (by rw [Od.nth_cast h ha', Od.nth_cast h hb', e]))
  · intro x hx
    obtain ⟨i, hi, rfl⟩ := List.mem_map.1 hx
    exact Od.nth_lt h (List.mem_range.1 hi)
/-- Prices that hold are together no more than any order costs. -/
theorem weak {c : List (List Int)} {n : Nat} {os : List Int} {u v : Fn} (ho : Od.ordB os n = true) (hf : ∀ i, i < n → ∀ b, b < n → u i + v b ≤ ct c i b) : sumTo u n + sumTo v n ≤ costTo c os n := by
  rw [← sum_ord ho v]
  have : ∀ k, k ≤ n → sumTo u k + sumTo (fun i => v (Od.nth os i)) k ≤ costTo c os k := by
    intro k
    induction k with
    | zero => intro _; simp [sumTo, costTo]
    | succ k ih =>
      intro hk
      have h1 := ih (by omega)
      have h2 := hf k (by omega) (Od.nth os k) (Od.nth_lt ho (by omega))
      simp only [sumTo, costTo]; omega
  exact this n (Nat.le_refl _)
theorem fit_nth {c : List (List Int)} {n i : Nat} (hi : i < n) : Od.nth (fitL c n) i = binOf (fitTo c n n).o n i := by
  rw [Od.nth, fitL, tab_get _ hi]; simp
/-- The cheapest fit costs as much as its prices together. -/
theorem strong {c : List (List Int)} {n : Nat} (hc : Good c n) : costTo c (fitL c n) n = sumTo (fitTo c n n).u n + sumTo (fitTo c n n).v n := by
  have h := fit_ou hc n (Nat.le_refl _)
  rw [← sum_ord (fit_ord hc) (fitTo c n n).v]
  have : ∀ k, k ≤ n → costTo c (fitL c n) k = sumTo (fitTo c n n).u k + sumTo (fun i => (fitTo c n n).v (Od.nth (fitL c n) i)) k := by
    intro k
    induction k with
    | zero => intro _; simp [sumTo, costTo]
    | succ k ih =>
      intro hk
      have h1 := ih (by omega)
      have hb := binOf_is h.ow (show k < n by omega)
      have h2 := h.pr.ti _ hb.1 (by omega)
      rw [hb.2, Int.toNat_natCast] at h2
      have e := fit_nth (c := c) (show k < n by omega)
      simp only [sumTo, costTo]
      rw [h1, e]
      omega
  exact this n (Nat.le_refl _)
theorem fit_tight {c : List (List Int)} {n i : Nat} (hc : Good c n) (hi : i < n) : (fitTo c n n).u i + (fitTo c n n).v (Od.nth (fitL c n) i) = ct c i (Od.nth (fitL c n) i) := by
  have h := fit_ou hc n (Nat.le_refl _)
  have hb := binOf_is h.ow hi
  have h2 := h.pr.ti _ hb.1 (by omega)
  rw [hb.2, Int.toNat_natCast] at h2
  rw [fit_nth hi]; exact h2
theorem least {c : List (List Int)} {n : Nat} {os : List Int} (hc : Good c n) (ho : Od.ordB os n = true) : costTo c (fitL c n) n ≤ costTo c os n := by
  rw [strong hc]
  exact weak ho (fit_ou hc n (Nat.le_refl _)).pr.fe
end Go.Proofs.Ytcniegaogdggaaa.Hu
