/-
  Plain facts, of no program: one step of a way, as lists.
-/
import Derived.Test.YtcniegaogdggaaaKn
namespace Go.Proofs.Ytcniegaogdggaaa.Hu

theorem In.owns {c : List (List Int)} {n : Nat} {o : Fn} {L : Nat} {S : Sk} {g : List Nat} (h : In c n o L S g) (hx : 0 ≤ nx o L S.la) : ∀ b, b ∈ g → 0 ≤ o b := by
  intro b hb
  cases g with
  | nil => cases hb
  | cons d r =>
    rcases List.mem_cons.1 hb with rfl | hb
    · have e := h.la
      rw [e] at hx
      have : ¬ ((b : Int) < 0) := by omega
      simpa [nx, lastOf, this] using hx
    · exact h.own b hb
theorem In.gone {c : List (List Int)} {n : Nat} {o : Fn} {L : Nat} {S : Sk} {g : List Nat} (h : In c n o L S g) {b : Nat} (hb : b < n) : S.gn b = false ↔ b ∉ g := by
  have := h.gl b hb
  cases e : S.gn b
  · simp only [true_iff]; intro hm; rw [this.2 hm] at e; cases e
  · simp only [Bool.true_eq_false, false_iff]; exact fun hn => hn (this.1 e)
theorem In.len {c : List (List Int)} {n : Nat} {o : Fn} {L : Nat} {S : Sk} {g : List Nat} (h : In c n o L S g) : g.length ≤ n := by
  have := h.nd.length_le_of_subset (l₂ := List.range n) (fun x hx => List.mem_range.2 (h.gb x hx))
  simpa using this
/-- Prices on the way. -/
theorem In.bd {c : List (List Int)} {n : Nat} {o : Fn} {L : Nat} {S : Sk} {g : List Nat} (hc : Good c n) (ho : Ow n o L) (hL : L < n) (h : In c n o L S g) : (∀ i, i < n → 0 ≤ S.u i ∧ S.u i ≤ 100) ∧ ∀ b, b < n → -100 ≤ S.v b ∧ S.v b ≤ 0 := by
  obtain ⟨z, hz, hzf⟩ := ho.free hL
  have hub := h.pr.ub hc hz hzf
  refine ⟨fun i hi => ⟨h.pr.up i hi, hub i hi⟩, fun b hb => ⟨?_, h.pr.vn b hb⟩⟩
  rcases ho.is b hb with e | e
  · have := h.pr.vz b hb (by omega); omega
  · have h5 := h.pr.ti b hb e.1
    have h6 := hub (o b).toNat (by omega)
    have h7 := (hc.cl (o b).toNat (by omega) b hb).1
    omega
theorem erase_filter {f : Nat → Bool} {d : Nat} : ∀ {l : List Nat} {p : Nat}, l.Nodup → p < l.length → l.getD p 0 = d → (l.filter fun b => !decide (b = d)) = l.eraseIdx p
  | [], p, _, hp, _ => by simp at hp
  | x :: l, 0, hd, _, e => by
    simp at e
    subst e
    have hx := (List.nodup_cons.1 hd).1
    simp only [List.eraseIdx_cons_zero]
    rw [List.filter_cons_of_neg (by simp)]
    rw [List.filter_eq_self]
    intro b hb
    have : b ≠ x := fun e => by subst e; exact hx hb
    simp [this]
  | x :: l, p + 1, hd, hp, e => by
    obtain ⟨hx, hd'⟩ := List.nodup_cons.1 hd
    have hp' : p < l.length := by simpa using hp
    have e' : l.getD p 0 = d := by simpa using e
    have hm : d ∈ l := by rw [← e']; simp [hp']
    have : x ≠ d := fun e => by subst e; exact hx hm
    rw [List.filter_cons_of_pos (by simp [this]), List.eraseIdx_cons_succ, erase_filter (f := f) hd' hp' e']
structure WStep (c : List (List Int)) (n : Nat) (o : Fn) (L : Nat) (S : Sk) (g : List Nat) (xs ys X Y : List Int) (d p : Nat) : Prop where
  dn : d < n
  best : bestN (fun b => X.getD b 0) (leftN n S.gn) = some d
  pl : p < (leftN n S.gn).length
  pd : (leftN n S.gn).getD p 0 = d
  yb : 0 ≤ X.getD d 0 ∧ X.getD d 0 ≤ 10000000000000
  bd : ∀ b ∈ leftN n S.gn, 0 ≤ X.getD b 0 ∧ X.getD b 0 ≤ 10000000000000
  lm : ∀ i ∈ loadsW o L (d :: g), i < n
  lsu : addAt (X.getD d 0) (tab n S.u) (loadsW o L (d :: g)) = tab n (step c n o L S).u
  lsv : addAt (-(X.getD d 0)) (tab n S.v) g.reverse = tab n (step c n o L S).v
  lfe : leftN n (step c n o L S).gn = (leftN n S.gn).eraseIdx p
  lsr : LsR n o L (step c n o L S) (d :: g) (decX (leftN n S.gn) X (X.getD d 0)) Y
  inn : In c n o L (step c n o L S) (d :: g)
  lr : ld o L S.la < n
theorem way_step {c : List (List Int)} {n : Nat} {o : Fn} {L : Nat} {S : Sk} {g : List Nat} {xs ys : List Int} (hc : Good c n) (ho : Ow n o L) (hL : L < n) (h : In c n o L S g) (hx : 0 ≤ nx o L S.la) (hr : LsR n o L S g xs ys) (hn : n ≤ 10) :
    ∃ d p, WStep c n o L S g xs ys (seeX (leftN n S.gn) (restR c (tab n S.u) (tab n S.v) (ld o L S.la)) xs) (seeY (leftN n S.gn) (restR c (tab n S.u) (tab n S.v) (ld o L S.la)) xs ys (ld o L S.la)) d p := by
  obtain ⟨k1, k2⟩ := see_is hc ho hL h hx hr hn
  generalize hX : seeX (leftN n S.gn) (restR c (tab n S.u) (tab n S.v) (ld o L S.la)) xs = X at *
  generalize hY : seeY (leftN n S.gn) (restR c (tab n S.u) (tab n S.v) (ld o L S.la)) xs ys (ld o L S.la) = Y at *
  obtain ⟨s1, s2, s3, s4, s5, s6⟩ := h.step hc ho hL hx
  have hw := h.owns hx
  have hLa : PR g S.la := by rw [h.la]; exact PR.last g
  have hli : ld o L S.la < n := ld_lt ho hL h.gb hw hLa
  have ey : X.getD (toN c n o L S) 0 = byN c n o L S := k1 _ s2 s3
  have hbest : bestN (fun b => X.getD b 0) (leftN n S.gn) = some (toN c n o L S) := by
    rw [best_congr (ls' := lsN c o L S), ← best_left]
    · exact s1
    · intro b hb
      obtain ⟨h1, h2⟩ := left_mem.1 hb
      exact k1 b h1 ((h.gone h1).1 h2)
  have hm := best_mem hbest
  obtain ⟨p, hp, e⟩ := List.getElem_of_mem hm
  have hpd : (leftN n S.gn).getD p 0 = toN c n o L S := by rw [List.getD_eq_getElem?_getD, List.getElem?_eq_getElem hp]; exact e
  have hbd : ∀ b ∈ leftN n S.gn, 0 ≤ X.getD b 0 ∧ X.getD b 0 ≤ 10000000000000 := by
    intro b hb
    obtain ⟨h1, h2⟩ := left_mem.1 hb
    rw [k1 b h1 ((h.gone h1).1 h2), lsN]
    have h3 := h.lz b h1
    have h4 := h.pr.fe _ hli b h1
    unfold far at h3
    by_cases e : S.gn b = false ∧ sl c S.u S.v (ld o L S.la) b < S.ls b
    · rw [if_pos e]
      have := e.2
      unfold sl at this ⊢
      omega
    · rw [if_neg e]; omega
  have hon := on_iff h.gl h.gb hw (L := L)
  have hlnd := loadsW_nodup ho (d := toN c n o L S) h.gb hw h.nd
  refine ⟨toN c n o L S, p, s2, hbest, hp, hpd, hbd _ hm, hbd, ?_, ?_, ?_, ?_, ?_, s6, hli⟩
  · intro i hi
    obtain ⟨f, h1, rfl⟩ := loadsW_mem.1 hi
    exact ld_lt ho hL h.gb hw h1
  · refine tab_ext (by rw [addAt_len, tab_len]) fun i hi => ?_
    rw [addAt_get _ hlnd _ (by rw [tab_len]; exact hi), tab_get _ hi, ey]
    have : i ∈ loadsW o L (toN c n o L S :: g) ↔ onB n o L S.gn i = true := by rw [loadsW_mem, hon i]
    show _ = if onB n o L S.gn i then S.u i + byN c n o L S else S.u i
    by_cases e : onB n o L S.gn i = true
    · rw [if_pos (this.2 e), if_pos e]
    · rw [if_neg (fun h' => e (this.1 h')), if_neg e]
  · refine tab_ext (by rw [addAt_len, tab_len]) fun b hb => ?_
    rw [addAt_get _ ((List.reverse_perm g).nodup_iff.2 h.nd) _ (by rw [tab_len]; exact hb), tab_get _ hb, ey]
    show _ = if S.gn b then S.v b - byN c n o L S else S.v b
    have := h.gl b hb
    by_cases e : b ∈ g
    · rw [if_pos (by simpa using e), if_pos (this.2 e)]; omega
    · rw [if_neg (by simpa using e), if_neg (fun h' => e (this.1 h'))]
  · have h1 := erase_filter (f := S.gn) (left_nodup n S.gn) hp hpd
    rw [← h1]
    unfold leftN
    rw [List.filter_filter]
    apply List.filter_congr
    intro b _
    show (!(decide (b = toN c n o L S) || S.gn b)) = (!decide (b = toN c n o L S) && !S.gn b)
    rw [Bool.not_or]
  · refine ⟨fun e => by simp at e, fun _ b hb hg => ?_, fun _ b hb => k2 b hb⟩
    have hbg : b ∉ g := fun h' => hg (List.mem_cons_of_mem _ h')
    have hgn := (h.gone hb).2 hbg
    rw [decX, tab_get _ (by omega), if_pos (left_mem.2 ⟨hb, hgn⟩), k1 b hb hbg, ey]
    show _ = if S.gn b then lsN c o L S b else lsN c o L S b - byN c n o L S
    rw [hgn]; simp
/-- The way on from where it stands. -/
theorem run_on {c : List (List Int)} {n : Nat} {o : Fn} {L k : Nat} {S : Sk} (hx : 0 ≤ nx o L S.la) : run c n o L (k + 1) S = run c n o L k (step c n o L S) := by rw [run, if_neg (by omega)]
theorem run_here {c : List (List Int)} {n : Nat} {o : Fn} {L k : Nat} {S : Sk} (hx : nx o L S.la < 0) : run c n o L k S = S := by cases k <;> simp [run, hx]
theorem LsR.start (n : Nat) (o : Fn) (L : Nat) (u v : Fn) (ys : List Int) (hn : n ≤ 10) : LsR n o L (start u v) [] (tab 10 fun b => if b < n then mx else 0) ys :=
  ⟨fun _ b hb => by rw [tab_get _ (by omega), if_pos hb], fun h => absurd rfl h, fun h => absurd rfl h⟩
theorem tab_all {n : Nat} {f : Fn} {lo hi : Int} (h : ∀ i, i < n → lo ≤ f i ∧ f i ≤ hi) : Pf.allB (tab n f) lo hi = true := by
  rw [Pf.allB, List.all_eq_true]
  intro x hx
  obtain ⟨i, hi', rfl⟩ := List.mem_map.1 hx
  have := h i (List.mem_range.1 hi')
  simp [Pf.inB]; omega
end Go.Proofs.Ytcniegaogdggaaa.Hu
