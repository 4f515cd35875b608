/-
  Ways and trees, plain: as long there as back, no way round is shorter, no star is shorter than the tree.
-/
import Derived.Test.YtphfcephinnkoaaRg11
namespace Go.Proofs.Ytphfcephinnkoaa.Rt

theorem way_turn (s t : Int × Int) : way s t = way t s := by
  unfold way
  by_cases h : s.1 = t.1
  · rw [if_pos h, if_pos h.symm]; omega
  · rw [if_neg h, if_neg (fun e => h e.symm)]
    omega
theorem way_zero {s t : Int × Int} (hs : spotB s = true) (ht : spotB t = true) : way s t = 0 ↔ s = t := by
  have h1 := spot_yes hs
  have h2 := spot_yes ht
  obtain ⟨x, y⟩ := s
  obtain ⟨u, v⟩ := t
  simp only at h1 h2
  unfold way
  simp only [Prod.mk.injEq]
  split <;> omega
theorem way_third {s t u : Int × Int} (hs : spotB s = true) (ht : spotB t = true) (hu : spotB u = true) : way s u ≤ way s t + way t u := by
  have h1 := spot_yes hs
  have h2 := spot_yes ht
  have h3 := spot_yes hu
  obtain ⟨x, y⟩ := s
  obtain ⟨p, q⟩ := t
  obtain ⟨r, z⟩ := u
  simp only at h1 h2 h3
  unfold way
  simp only
  split <;> split <;> split <;> omega
theorem way_self (s : Int × Int) : way s s = 0 := by simp [way]
theorem fb_least {α : Type} (f : α → Int) : ∀ (l : List α) (b : Option α) {x : α}, fb f b l = some x → (∀ y ∈ l, f x ≤ f y) ∧ ∀ z, b = some z → f x ≤ f z
  | [], b, x, h => by
    refine ⟨fun y hy => absurd hy (by simp), fun z hz => ?_⟩
    have : b = some x := h
    rw [this] at hz; cases hz; exact Int.le_refl _
  | y :: l, b, x, h => by
    obtain ⟨h1, h2⟩ := fb_least f l (comb f b (some y)) h
    have h3 : f x ≤ f y ∧ ∀ z, b = some z → f x ≤ f z := by
      cases b with
      | none => exact ⟨h2 y rfl, fun z hz => by cases hz⟩
      | some z =>
        by_cases hlt : f y < f z
        · have := h2 y (by simp [comb, hlt])
          exact ⟨this, fun z' hz => by cases hz; omega⟩
        · have := h2 z (by simp [comb, hlt])
          exact ⟨by omega, fun z' hz => by cases hz; omega⟩
    refine ⟨fun a ha => ?_, h3.2⟩
    rcases List.mem_cons.1 ha with rfl | ha
    · exact h3.1
    · exact h1 a ha
/-- The next joint is the nearest. -/
theorem best_least {I : List Nat} {L : List (Int × Int)} {n k i : Nat} (h : bestTo L I n n = some (k, i)) {a b : Nat} (ha : a < n) (ha' : ¬ a ∈ I) (hb : b < n) (hb' : b ∈ I) : wy L k i ≤ wy L a b := by
  have := (fb_least (wp L) (pairs I n n) none h).1 (a, b) (List.mem_flatMap.2 ⟨a, List.mem_filter.2 ⟨List.mem_range.2 ha, by simpa using ha'⟩, List.mem_map.2 ⟨b, List.mem_filter.2 ⟨List.mem_range.2 hb, by simpa using hb'⟩, rfl⟩⟩)
  exact this
/-- The ways from one stop to some. -/
def starL (L : List (Int × Int)) (c : Nat) (I : List Nat) : Int := (I.map fun y => wy L c y).sum
theorem starL_snoc (L : List (Int × Int)) (c : Nat) (I : List Nat) (x : Nat) : starL L c (I ++ [x]) = starL L c I + wy L c x := by simp [starL]
theorem last_form : ∀ (I : List Nat), I ≠ [] → ∃ J x, I = J ++ [x]
  | [], h => absurd rfl h
  | [a], _ => ⟨[], a, rfl⟩
  | a :: b :: r, _ => by
    obtain ⟨J, x, e⟩ := last_form (b :: r) (by simp)
    exact ⟨a :: J, x, by rw [e]; rfl⟩
/-- As long as the middle of the star is not joined, the last that was joined is still to be paid. -/
theorem tree_star {L : List (Int × Int)} {n c : Nat} (hn : L.length = n) (h1 : 1 ≤ n) (hc : c < n) (ha : allS L = true) : ∀ m, m < n →
    (c ∈ (tree L m).1 → (tree L m).2.2 ≤ starL L c (tree L m).1) ∧ (¬ c ∈ (tree L m).1 → ∀ J x, (tree L m).1 = J ++ [x] → (tree L m).2.2 ≤ starL L c J)
  | 0, _ => by
    refine ⟨fun hm => ?_, fun hm J x e => ?_⟩
    · simp only [tree, starL, List.map_cons, List.map_nil, List.sum_cons, List.sum_nil]
      have := (wy_bd ha (i := c) (j := 0) (by omega) (by omega)).1
      omega
    · have : J = [] := by
        have e' : [0] = J ++ [x] := e
        have := congrArg List.length e'
        simp at this
        exact this
      subst this
      simp [tree, starL]
  | m + 1, hm => by
    obtain ⟨j1, j2, j3⟩ := tree_jn hn h1 m (by omega)
    obtain ⟨ih1, ih2⟩ := tree_star hn h1 hc ha m (by omega)
    obtain ⟨k, i, hb, hk, hki, hi, hii⟩ := best_some L j1 (by omega)
    have e := tree_step (m := m) (I := (tree L m).1) (up := (tree L m).2.1) (s := (tree L m).2.2) hn rfl hb
    rw [e]
    simp only
    by_cases hcI : c ∈ (tree L m).1
    · refine ⟨fun _ => ?_, fun h => absurd (List.mem_append.2 (Or.inl hcI)) h⟩
      rw [starL_snoc]
      have h2 := best_least hb hk hki hc hcI
      have h3 : wy L k c = wy L c k := way_turn _ _
      have := ih1 hcI
      omega
    · obtain ⟨J, x, eJ⟩ := last_form (tree L m).1 (fun h => by rw [h] at j2; simp at j2)
      have h0 := ih2 hcI J x eJ
      have hx : x ∈ (tree L m).1 := by rw [eJ]; simp
      have h2 := best_least hb hc hcI (j1.lt x hx) hx
      have h4 : (tree L m).2.2 + wy L k i ≤ starL L c (tree L m).1 := by rw [eJ, starL_snoc]; omega
      refine ⟨fun hm' => ?_, fun hm' J' x' e' => ?_⟩
      · rw [starL_snoc]
        have := (wy_bd ha (i := c) (j := k) (by omega) (by omega)).1
        omega
      · have : J' = (tree L m).1 := (List.append_inj_left' e' rfl).symm
        rw [this]; exact h4
/-- The star, added up. -/
def star (L : List (Int × Int)) (c : Nat) : Nat → Int
  | 0 => 0
  | i + 1 => star L c i + wy L c i
theorem star_range (L : List (Int × Int)) (c : Nat) : ∀ n, star L c n = starL L c (List.range n)
  | 0 => rfl
  | n + 1 => by rw [List.range_succ, starL_snoc, ← star_range L c n]; rfl
theorem star_bd {L : List (Int × Int)} {c : Nat} (ha : allS L = true) (hc : c < L.length) : ∀ i, i ≤ L.length → 0 ≤ star L c i ∧ star L c i ≤ 100 * (i : Int)
  | 0, _ => by simp [star]
  | i + 1, hi => by
    have ih := star_bd ha hc i (by omega)
    have := wy_bd ha hc (show i < L.length by omega)
    simp only [star]; omega
theorem tree_le {L : List (Int × Int)} {n c : Nat} (hn : L.length = n) (h1 : 1 ≤ n) (hc : c < n) (ha : allS L = true) : (tree L (n - 1)).2.2 ≤ star L c n := by
  obtain ⟨j1, j2, _⟩ := tree_jn hn h1 (n - 1) (by omega)
  have h := (tree_star hn h1 hc ha (n - 1) (by omega)).1 (j1.full (by omega) hc)
  have p : (tree L (n - 1)).1.Perm (List.range n) := (List.perm_ext_iff_of_nodup j1.nd List.nodup_range).2 fun x => ⟨fun hx => List.mem_range.2 (j1.lt x hx), fun hx => j1.full (by omega) (List.mem_range.1 hx)⟩
  have e : starL L c (tree L (n - 1)).1 = starL L c (List.range n) := by
    unfold starL
    generalize (tree L (n - 1)).1 = A at p
    generalize List.range n = B at p
    clear h
    induction p with
    | nil => rfl
    | cons x _ ih => simp only [List.map_cons, List.sum_cons, ih]
    | swap x y l => simp only [List.map_cons, List.sum_cons]; omega
    | trans _ _ ih1 ih2 => exact ih1.trans ih2
  rw [star_range, ← e]; exact h
/-- What the ways up from the first ones are long. -/
def ups (L : List (Int × Int)) (up : List Int) : Nat → Int
  | 0 => 0
  | i + 1 => ups L up i + (if up.getD i 0 = -1 then 0 else wy L (up.getD i 0).toNat i)
theorem ups_set (L : List (Int × Int)) (up : List Int) (k i n : Nat) (hn : up.length = n) (hk : k < n) (h : up.getD k 0 = -1) : ∀ j, ups L (up.set k (i : Int)) j = ups L up j + if k < j then wy L i k else 0
  | 0 => by simp [ups]
  | j + 1 => by
    have ih := ups_set L up k i n hn hk h j
    simp only [ups, ih]
    by_cases e : j = k
    · subst e
      have e1 : (up.set j (i : Int)).getD j 0 = (i : Int) := by simp [hn, hk]
      rw [e1, h]
      have : ¬ ((i : Int) = -1) := by omega
      simp [this]
    · have e1 : (up.set k (i : Int)).getD j 0 = up.getD j 0 := by
        simp only [List.getD_eq_getElem?_getD]; rw [List.getElem?_set_ne (Ne.symm e)]
      rw [e1]
      have : (k < j + 1) = (k < j) := by rw [eq_iff_iff]; omega
      simp only [this]
      omega
/-- Who is up of whom. -/
structure Ups (L : List (Int × Int)) (n : Nat) (I : List Nat) (up : List Int) (s : Int) : Prop where
  len : up.length = n
  zero : up.getD 0 0 = -1
  out : ∀ x, x < n → ¬ x ∈ I → up.getD x 0 = -1
  inn : ∀ x, x < n → x ∈ I → x ≠ 0 → ∃ j : Nat, up.getD x 0 = (j : Int) ∧ j < n
  sum : ups L up n = s
theorem ups_none (L : List (Int × Int)) (n : Nat) : ∀ j, j ≤ n → ups L (List.replicate n (-1)) j = 0
  | 0, _ => rfl
  | j + 1, hj => by
    have e : (List.replicate n (-1 : Int)).getD j 0 = -1 := by simp [List.getD_eq_getElem?_getD, show j < n by omega]
    simp only [ups, ups_none L n j (by omega), e, if_true]; rfl
theorem tree_ups {L : List (Int × Int)} {n : Nat} (hn : L.length = n) (h1 : 1 ≤ n) : ∀ m, m < n → Ups L n (tree L m).1 (tree L m).2.1 (tree L m).2.2
  | 0, _ => ⟨by simp [tree, hn], by simp [tree, hn, List.getD_eq_getElem?_getD, show 0 < n by omega], fun x hx _ => by simp [tree, hn, List.getD_eq_getElem?_getD, hx], fun x hx hm h0 => by simp [tree] at hm; omega, by simp only [tree, hn]; exact ups_none L n n (Nat.le_refl _)⟩
  | m + 1, hm => by
    obtain ⟨j1, j2, j3⟩ := tree_jn hn h1 m (by omega)
    obtain ⟨u1, u2, u3, u4, u5⟩ := tree_ups hn h1 m (by omega)
    obtain ⟨k, i, hb, hk, hki, hi, hii⟩ := best_some L j1 (by omega)
    have e := tree_step (m := m) (I := (tree L m).1) (up := (tree L m).2.1) (s := (tree L m).2.2) hn rfl hb
    have hk0 : k ≠ 0 := fun h => hki (h ▸ j1.z)
    have eg : ∀ x, x ≠ k → ((tree L m).2.1.set k (i : Int)).getD x 0 = (tree L m).2.1.getD x 0 := fun x hx => by
      simp only [List.getD_eq_getElem?_getD]; rw [List.getElem?_set_ne (Ne.symm hx)]
    rw [e]
    refine ⟨by simpa using u1, by rw [eg 0 (Ne.symm hk0)]; exact u2, fun x hx hm' => ?_, fun x hx hm' h0 => ?_, ?_⟩
    · have hxk : x ≠ k := fun e => hm' (List.mem_append.2 (Or.inr (by simp [e])))
      rw [eg x hxk]
      exact u3 x hx fun h => hm' (List.mem_append.2 (Or.inl h))
    · by_cases hxk : x = k
      · subst hxk
        exact ⟨i, by simp [u1, hx], hi⟩
      · rw [eg x hxk]
        refine u4 x hx ?_ h0
        rcases List.mem_append.1 hm' with h | h
        · exact h
        · simp at h; exact absurd h hxk
    · show ups L ((tree L m).2.1.set k (i : Int)) n = _
      rw [ups_set L _ k i n u1 hk (u3 k hk hki), u5, if_pos hk]
      have : wy L i k = wy L k i := way_turn _ _
      rw [this]
/-- What the law asks of a tree. -/
theorem tree_facts {L : List (Int × Int)} {n : Nat} (hn : L.length = n) (h : stopsB L = true) :
    (toL L).length = n ∧ (toL L).getD 0 0 = -1 ∧ (∀ x, x < n → x ≠ 0 → ∃ j : Nat, (toL L).getD x 0 = (j : Int) ∧ j < n) ∧ ups L (toL L) n = toI L ∧ ∀ c, c < n → toI L ≤ star L c n := by
  have hl := stops_len h
  rw [hn] at hl
  obtain ⟨u1, u2, u3, u4, u5⟩ := tree_ups hn hl.1 (n - 1) (by omega)
  obtain ⟨j1, j2, j3⟩ := tree_jn hn hl.1 (n - 1) (by omega)
  have e1 : toL L = (tree L (n - 1)).2.1 := by unfold toL; rw [h, hn]; rfl
  have e2 : toI L = (tree L (n - 1)).2.2 := by unfold toI; rw [h, hn]; rfl
  rw [e1, e2]
  exact ⟨u1, u2, fun x hx h0 => u4 x hx (j1.full (by omega) hx) h0, u5, fun c hc => tree_le hn hl.1 hc (stops_all h)⟩
theorem ups_bd {L : List (Int × Int)} {up : List Int} {n : Nat} (hn : L.length = n) (ha : allS L = true) (hu : ∀ x, x < n → x ≠ 0 → ∃ j : Nat, up.getD x 0 = (j : Int) ∧ j < n) (h0 : up.getD 0 0 = -1) : ∀ i, i ≤ n → 0 ≤ ups L up i ∧ ups L up i ≤ 100 * (i : Int)
  | 0, _ => by simp [ups]
  | i + 1, hi => by
    have ih := ups_bd hn ha hu h0 i (by omega)
    simp only [ups]
    by_cases e : i = 0
    · subst e; rw [h0]; simp only [if_true]; omega
    · obtain ⟨j, hj, hjn⟩ := hu i (by omega) e
      rw [hj, if_neg (by omega)]
      have := wy_bd ha (i := (j : Int).toNat) (j := i) (by simp; omega) (by omega)
      omega
theorem ups_step {L : List (Int × Int)} {up : List Int} {i j : Nat} (h : up.getD i 0 = (j : Int)) : ups L up (i + 1) = ups L up i + wy L j i := by
  simp only [ups, h, Int.toNat_natCast]
  rw [if_neg (by omega)]
theorem ups_first {L : List (Int × Int)} {up : List Int} (h : up.getD 0 0 = -1) : ups L up 1 = 0 := by simp only [ups, h, if_true]; rfl
/-- What the law asks of three spots. -/
theorem way_facts {s t u : Int × Int} (h : spotB s = true ∧ spotB t = true ∧ spotB u = true) : way t s = way s t ∧ 0 ≤ way s t ∧ way s t ≤ 100 ∧ 0 ≤ way t u ∧ way t u ≤ 100 ∧ (way s t = 0 ↔ s = t) ∧ way s u ≤ way s t + way t u :=
  ⟨way_turn _ _, (way_bd h.1 h.2.1).1, (way_bd h.1 h.2.1).2, (way_bd h.2.1 h.2.2).1, (way_bd h.2.1 h.2.2).2, way_zero h.1 h.2.1, way_third h.1 h.2.1 h.2.2⟩
end Go.Proofs.Ytphfcephinnkoaa.Rt
