/-
  Plain facts, of no program: no order costs less than that with the most used at the nearest (Hardy, Littlewood and Polya), and none of families less than that by weight for each (Smith).
-/
import Derived.Test.YtljccbnkibfimaaHo
namespace Go.Proofs.Ytljccbnkibfimaa.Od

/-- Of two numbers the one that stands first: of the greater value, of alike ones the first. -/
def bef (vs : List Int) (a b : Nat) : Prop := Rk.val vs a > Rk.val vs b ∨ (Rk.val vs a = Rk.val vs b ∧ a < b)
instance (vs : List Int) (a b : Nat) : Decidable (bef vs a b) := by unfold bef; infer_instance
def insS (vs : List Int) (x : Nat) : List Nat → List Nat
  | [] => [x]
  | y :: r => if bef vs x y then x :: y :: r else y :: insS vs x r
def isort (vs : List Int) : List Nat → List Nat
  | [] => []
  | x :: r => insS vs x (isort vs r)
theorem insS_perm (vs : List Int) (x : Nat) : ∀ l, (insS vs x l).Perm (x :: l)
  | [] => List.Perm.refl _
  | y :: r => by
    unfold insS; split
    · exact List.Perm.refl _
    · exact ((insS_perm vs x r).cons y).trans (List.Perm.swap x y r)
theorem isort_perm (vs : List Int) : ∀ l, (isort vs l).Perm l
  | [] => List.Perm.refl _
  | x :: r => (insS_perm vs x _).trans ((isort_perm vs r).cons x)
theorem insS_len (vs : List Int) (x : Nat) (l : List Nat) : (insS vs x l).length = l.length + 1 := (insS_perm vs x l).length_eq
theorem insS_stays (vs : List Int) (x : Nat) : ∀ l, x ∉ l → Rk.Stays vs l → Rk.Stays vs (insS vs x l)
  | [], _, _ => by simp [insS, Rk.Stays]
  | y :: r, hx, h => by
    have h' := List.pairwise_cons.1 h
    have hxy : x ≠ y := fun e => hx (by rw [e]; exact List.mem_cons_self ..)
    unfold insS; split
    · rename_i hb
      refine List.pairwise_cons.2 ⟨fun z hz => ?_, h⟩
      rcases List.mem_cons.1 hz with rfl | hz
      · exact hb
      · have h1 := h'.1 z hz
        unfold bef at hb
        rcases hb with hb | hb <;> rcases h1 with h1 | h1 <;> omega
    · rename_i hb
      refine List.pairwise_cons.2 ⟨fun z hz => ?_, insS_stays vs x r (fun hm => hx (List.mem_cons_of_mem _ hm)) h'.2⟩
      rcases List.mem_cons.1 ((insS_perm vs x r).mem_iff.1 hz) with rfl | hz
      · unfold bef at hb
        omega
      · exact h'.1 z hz
theorem isort_stays (vs : List Int) : ∀ l, l.Nodup → Rk.Stays vs (isort vs l)
  | [], _ => List.Pairwise.nil
  | x :: r, h => by
    have h' := List.nodup_cons.1 h
    exact insS_stays vs x _ (fun hm => h'.1 ((isort_perm vs r).mem_iff.1 hm)) (isort_stays vs r h'.2)
theorem isort_rank (vs : List Int) {l : List Nat} (h : l.Perm (List.range vs.length)) : isort vs l = Rk.rank vs := by
  refine List.Perm.eq_of_pairwise (le := fun a b => Rk.val vs a > Rk.val vs b ∨ (Rk.val vs a = Rk.val vs b ∧ a < b)) ?_ (isort_stays vs l (h.symm.nodup List.nodup_range)) (Rk.rank_stays vs) ((isort_perm vs l).trans (h.trans (Rk.rank_perm vs).symm))
  intro a b _ _ h1 h2
  rcases h1 with h1 | h1 <;> rcases h2 with h2 | h2 <;> omega

/-- The numbers of an order are 0 up to n - 1. -/
def nums (os : List Int) : List Nat := os.map Int.toNat
theorem nums_len (os : List Int) : (nums os).length = os.length := by simp [nums]
theorem nums_get (os : List Int) (i : Nat) : (nums os).getD i 0 = nth os i := by
  simp only [nums, nth, List.getD_eq_getElem?_getD, List.getElem?_map]
  cases os[i]? <;> rfl
theorem perm_of {l : List Nat} {n : Nat} (hl : l.length = n) (hd : l.Nodup) (hb : ∀ x ∈ l, x < n) : l.Perm (List.range n) := by
  have all : ∀ k, k < n → k ∈ l := by
    intro k hk
    apply Classical.byContradiction
    intro hn
    have : (k :: l).Nodup := List.nodup_cons.2 ⟨hn, hd⟩
    have := this.length_le_of_subset (l₂ := List.range n) (fun x hx => by
      rcases List.mem_cons.1 hx with rfl | hx
      · simpa using hk
      · simpa using hb x hx)
    simp at this
    omega
  rw [List.perm_iff_count]
  intro a
  rw [hd.count, List.nodup_range.count]
  by_cases h : a < n
  · rw [if_pos (all a h), if_pos (by simpa using h)]
  · rw [if_neg (fun hm => h (hb a hm)), if_neg (by simpa using h)]
theorem nums_perm {os : List Int} {n : Nat} (h : ordB os n = true) : (nums os).Perm (List.range n) := by
  obtain ⟨hl, h1, h2⟩ := ordB_iff.1 h
  refine perm_of (by rw [nums_len, hl]) ?_ ?_
  · rw [List.nodup_iff_pairwise_ne, List.pairwise_iff_getElem]
    intro i j hi hj hij e
    rw [nums_len, hl] at hi hj
    have e1 : (nums os).getD i 0 = (nums os).getD j 0 := by
      rw [Pf.getD_lt _ 0 (by rw [nums_len, hl]; exact hi), Pf.getD_lt _ 0 (by rw [nums_len, hl]; exact hj)]; exact e
    rw [nums_get, nums_get] at e1
    have := h2 i j hi hj (by rw [nth_cast h hi, nth_cast h hj, e1])
    omega
  · intro x hx
    obtain ⟨i, hi, rfl⟩ := List.getElem_of_mem hx
    rw [nums_len, hl] at hi
    have := nth_lt h hi
    rw [← nums_get, Pf.getD_lt _ 0 (by rw [nums_len, hl]; exact hi)] at this
    exact this

theorem nd_inj {l : List Nat} (hd : l.Nodup) {i j : Nat} (hi : i < l.length) (hj : j < l.length) (e : l[i] = l[j]) : i = j := by
  have h := List.pairwise_iff_getElem.1 hd
  rcases Nat.lt_trichotomy i j with c | c | c
  · exact absurd e (h i j hi hj c)
  · exact c
  · exact absurd e.symm (h j i hj hi c)
/-- Goods at places: the sum of use times way, pair by pair. -/
def pc (us ws : List Int) : List Nat → List Nat → Int
  | g :: gs, p :: ps => us.getD g 0 * ws.getD p 0 + pc us ws gs ps
  | _, _ => 0
theorem cross {a b c d : Int} (h1 : a ≤ b) (h2 : c ≤ d) : b * c + a * d ≤ a * c + b * d := by
  have := Int.mul_nonneg (show 0 ≤ b - a by omega) (show 0 ≤ d - c by omega)
  rw [Int.sub_mul, Int.mul_sub, Int.mul_sub] at this
  omega
theorem pc_ins (us ws : List Int) (x : Nat) : ∀ (l : List Nat) (p : Nat) (ps : List Nat), ps.length = l.length → (p :: ps).Pairwise (fun a b => ws.getD a 0 ≤ ws.getD b 0) → pc us ws (insS us x l) (p :: ps) ≤ pc us ws (x :: l) (p :: ps)
  | [], p, ps, _, _ => Int.le_refl _
  | y :: r, p, ps, hl, hs => by
    cases ps with
    | nil => simp at hl
    | cons p' ps' =>
      unfold insS; split
      · exact Int.le_refl _
      · rename_i hb
        have hs' := List.pairwise_cons.1 hs
        have ih := pc_ins us ws x r p' ps' (by simpa using hl) hs'.2
        have hle : ws.getD p 0 ≤ ws.getD p' 0 := hs'.1 p' (List.mem_cons_self ..)
        have hxy : us.getD x 0 ≤ us.getD y 0 := by
          unfold bef Rk.val at hb; omega
        have hc := cross hxy hle
        simp only [pc] at ih ⊢
        omega
theorem pc_sort (us ws : List Int) : ∀ (l ps : List Nat), ps.length = l.length → ps.Pairwise (fun a b => ws.getD a 0 ≤ ws.getD b 0) → pc us ws (isort us l) ps ≤ pc us ws l ps
  | [], ps, _, _ => Int.le_refl _
  | x :: r, ps, hl, hs => by
    cases ps with
    | nil => simp at hl
    | cons p ps' =>
      have hs' := List.pairwise_cons.1 hs
      have ih := pc_sort us ws r ps' (by simpa using hl) hs'.2
      have h1 := pc_ins us ws x (isort us r) p ps' (by rw [(isort_perm us r).length_eq]; simpa using hl) hs
      refine Int.le_trans h1 ?_
      simp only [pc]
      omega
/-- A sum over numbers. -/
def sumN (f : Nat → Int) : List Nat → Int
  | [] => 0
  | x :: r => f x + sumN f r
theorem sumN_perm (f : Nat → Int) {l l' : List Nat} (h : l.Perm l') : sumN f l = sumN f l' := by
  induction h with
  | nil => rfl
  | cons x _ ih => simp only [sumN, ih]
  | swap x y l => simp only [sumN]; omega
  | trans _ _ ih1 ih2 => exact ih1.trans ih2
theorem sumN_app (f : Nat → Int) : ∀ l r, sumN f (l ++ r) = sumN f l + sumN f r
  | [], r => by simp [sumN]
  | x :: l, r => by simp only [List.cons_append, sumN, sumN_app f l r]; omega
theorem costTo_sum (us ws os : List Int) : ∀ k, costTo us ws os k = sumN (fun i => us.getD (nth os i) 0 * ws.getD i 0) (List.range k)
  | 0 => rfl
  | k + 1 => by rw [costTo, costTo_sum us ws os k, List.range_succ, sumN_app]; simp [sumN]
theorem sum_pc (us ws os : List Int) : ∀ ps, sumN (fun i => us.getD (nth os i) 0 * ws.getD i 0) ps = pc us ws (ps.map (nth os)) ps
  | [] => rfl
  | p :: ps => by simp only [sumN, List.map_cons, pc, sum_pc us ws os ps]
theorem cost_pc {us ws os : List Int} {ps : List Nat} (hp : ps.Perm (List.range os.length)) : cost us ws os = pc us ws (ps.map (nth os)) ps := by
  rw [cost, costTo_sum, ← sum_pc]
  exact sumN_perm _ hp.symm
theorem map_perm {os : List Int} {n : Nat} {ps : List Nat} (h : ordB os n = true) (hp : ps.Perm (List.range n)) : (ps.map (nth os)).Perm (List.range n) := by
  refine (hp.map _).trans ?_
  have e : (List.range n).map (nth os) = nums os := by
    have hl := ordB_len h
    apply List.ext_getElem
    · simp [nums_len, hl]
    · intro i h1 h2
      have := nums_get os i
      rw [Pf.getD_lt _ 0 h2] at this
      simp [this]
  rw [e]
  exact nums_perm h
/-- The places from the nearest on. -/
theorem near_up (ws : List Int) : (Rk.rank (negs ws)).Pairwise (fun a b => ws.getD a 0 ≤ ws.getD b 0) := by
  refine (Rk.rank_down (negs ws)).imp ?_
  intro a b h
  rw [negs_val, negs_val] at h
  omega
theorem putTo_at {gs ps : List Nat} {n : Nat} (hd : ps.Nodup) (hl : ps.length = n) (hb : ∀ x ∈ ps, x < n) : ∀ k, k ≤ n → ∀ i, i < k → (putTo gs ps n k).getD (ps.getD i 0) 0 = ((gs.getD i 0 : Nat) : Int)
  | 0, _, i, hi => by omega
  | k + 1, hk, i, hi => by
    have hk' : k < ps.length := by omega
    have hpk : ps.getD k 0 < n := by rw [Pf.getD_lt _ 0 hk']; exact hb _ (List.getElem_mem hk')
    simp only [putTo]
    by_cases e : i = k
    · subst e
      rw [List.getD_eq_getElem?_getD, List.getElem?_set_self (by rw [putTo_len]; exact hpk)]
      rfl
    · have hne : ps.getD k 0 ≠ ps.getD i 0 := by
        rw [Pf.getD_lt _ 0 hk', Pf.getD_lt _ 0 (show i < ps.length by omega)]
        intro h
        exact e (nd_inj hd hk' (by omega) h).symm
      rw [List.getD_eq_getElem?_getD, List.getElem?_set_ne hne, ← List.getD_eq_getElem?_getD]
      exact putTo_at hd hl hb k (by omega) i (by omega)
theorem of_nth {us ws : List Int} (hl : us.length = ws.length) {i : Nat} (hi : i < us.length) : (ofL us ws).getD ((Rk.rank (negs ws)).getD i 0) 0 = (((Rk.rank us).getD i 0 : Nat) : Int) := by
  have hp := Rk.rank_perm (negs ws)
  rw [negs_len, ← hl] at hp
  exact putTo_at (hp.symm.nodup List.nodup_range) (by rw [hp.length_eq]; simp) (fun x hx => by simpa using hp.mem_iff.1 hx) us.length (Nat.le_refl _) i hi
theorem of_map {us ws : List Int} (hl : us.length = ws.length) : (Rk.rank (negs ws)).map (nth (ofL us ws)) = Rk.rank us := by
  have hp := Rk.rank_perm (negs ws)
  rw [negs_len, ← hl] at hp
  have h1 : (Rk.rank (negs ws)).length = us.length := by rw [hp.length_eq]; simp
  apply List.ext_getElem
  · rw [List.length_map, h1, Rk.rank_len]
  · intro i a b
    rw [List.length_map, h1] at a
    have := of_nth (us := us) (ws := ws) hl a
    rw [Pf.getD_lt (Rk.rank (negs ws)) 0 (by rw [h1]; exact a), Pf.getD_lt (Rk.rank us) 0 b] at this
    rw [List.getElem_map, nth, this]
    simp
theorem of_ord {us ws : List Int} (hl : us.length = ws.length) : ordB (ofL us ws) us.length = true := by
  have hp := Rk.rank_perm (negs ws)
  rw [negs_len, ← hl] at hp
  have h1 : (Rk.rank (negs ws)).length = us.length := by rw [hp.length_eq]; simp
  have each : ∀ i, i < us.length → ∃ k, k < us.length ∧ (Rk.rank (negs ws)).getD k 0 = i := by
    intro i hi
    have hm := hp.mem_iff.2 (List.mem_range.2 hi)
    obtain ⟨k, hk, e⟩ := List.getElem_of_mem hm
    exact ⟨k, by omega, by rw [Pf.getD_lt _ 0 hk]; exact e⟩
  have hu := Rk.rank_perm us
  have hnd : (Rk.rank us).Nodup := hu.symm.nodup List.nodup_range
  refine ordB_iff.2 ⟨ofL_len _ _, fun i hi => ?_, fun i j hi hj e => ?_⟩
  · obtain ⟨k, hk, rfl⟩ := each i hi
    rw [of_nth hl hk]
    have := rk_nth_lt (vs := us) hk
    omega
  · obtain ⟨k, hk, rfl⟩ := each i hi
    obtain ⟨m, hm, rfl⟩ := each j hj
    rw [of_nth hl hk, of_nth hl hm] at e
    have e2 : (Rk.rank us).getD k 0 = (Rk.rank us).getD m 0 := by omega
    rw [Pf.getD_lt _ 0 (by rw [Rk.rank_len]; exact hk), Pf.getD_lt _ 0 (by rw [Rk.rank_len]; exact hm)] at e2
    rw [nd_inj hnd _ _ e2]
/-- No order costs less. -/
theorem of_least {us ws os : List Int} (hl : us.length = ws.length) (ho : ordB os us.length = true) : cost us ws (ofL us ws) ≤ cost us ws os := by
  have hp := Rk.rank_perm (negs ws)
  rw [negs_len, ← hl] at hp
  have h1 : (Rk.rank (negs ws)).length = us.length := by rw [hp.length_eq]; simp
  rw [cost_pc (ps := Rk.rank (negs ws)) (os := ofL us ws) (by rw [ofL_len]; exact hp), of_map hl, cost_pc (ps := Rk.rank (negs ws)) (os := os) (by rw [ordB_len ho]; exact hp), ← isort_rank us (map_perm ho hp)]
  exact pc_sort us ws _ _ (by rw [List.length_map]) (near_up ws)
end Go.Proofs.Ytljccbnkibfimaa.Od
namespace Go.Proofs.Ytljccbnkibfimaa.Fm

/-- What families cost in an order of numbers, behind so many. -/
def sm (L : List (Int × Int)) : Int → List Nat → Int
  | _, [] => 0
  | b, x :: r => (L.getD x (0, 0)).1 * (b + (L.getD x (0, 0)).2) + sm L (b + (L.getD x (0, 0)).2) r
theorem sm_swap {L : List (Int × Int)} {x y : Nat} (h : (L.getD x (0, 0)).1 * (L.getD y (0, 0)).2 ≤ (L.getD y (0, 0)).1 * (L.getD x (0, 0)).2) (b : Int) (r : List Nat) : sm L b (y :: x :: r) ≤ sm L b (x :: y :: r) := by
  simp only [sm]
  generalize L.getD x (0, 0) = f at *
  generalize L.getD y (0, 0) = g at *
  rw [show b + g.2 + f.2 = b + f.2 + g.2 by omega]
  have e1 : f.1 * (b + f.2 + g.2) = f.1 * (b + f.2) + f.1 * g.2 := Int.mul_add ..
  have e2 : g.1 * (b + f.2 + g.2) = g.1 * (b + g.2) + g.1 * f.2 := by rw [show b + f.2 + g.2 = b + g.2 + f.2 by omega]; exact Int.mul_add ..
  rw [e1, e2]
  omega
theorem sm_ins {L : List (Int × Int)} (hL : famB L = true) {x : Nat} (hx : x < L.length) : ∀ (l : List Nat), (∀ y ∈ l, y < L.length) → ∀ b, sm L b (Od.insS (keys L) x l) ≤ sm L b (x :: l)
  | [], _, _ => Int.le_refl _
  | y :: r, hl, b => by
    unfold Od.insS; split
    · exact Int.le_refl _
    · rename_i hb
      have hy := hl y (List.mem_cons_self ..)
      have ih := sm_ins hL hx r (fun z hz => hl z (List.mem_cons_of_mem _ hz)) (b + (L.getD y (0, 0)).2)
      have hk : (L.getD x (0, 0)).1 * (L.getD y (0, 0)).2 ≤ (L.getD y (0, 0)).1 * (L.getD x (0, 0)).2 := by
        rw [le_iff (famB_at hL hx) (famB_at hL hy), ← keys_val, ← keys_val]
        unfold Od.bef at hb
        omega
      refine Int.le_trans ?_ (sm_swap hk b r)
      have e : ∀ t, sm L b (y :: t) = (L.getD y (0, 0)).1 * (b + (L.getD y (0, 0)).2) + sm L (b + (L.getD y (0, 0)).2) t := fun _ => rfl
      rw [e, e]
      omega
theorem sm_sort {L : List (Int × Int)} (hL : famB L = true) : ∀ (l : List Nat), (∀ y ∈ l, y < L.length) → ∀ b, sm L b (Od.isort (keys L) l) ≤ sm L b l
  | [], _, _ => Int.le_refl _
  | x :: r, hl, b => by
    have h1 := sm_ins hL (hl x (List.mem_cons_self ..)) (Od.isort (keys L) r) (fun z hz => hl z (List.mem_cons_of_mem _ ((Od.isort_perm (keys L) r).mem_iff.1 hz))) b
    have ih := sm_sort hL r (fun z hz => hl z (List.mem_cons_of_mem _ hz)) (b + (L.getD x (0, 0)).2)
    refine Int.le_trans h1 ?_
    simp only [sm]
    omega
theorem smTo_rest (L : List (Int × Int)) (os : List Int) : ∀ (r k : Nat), k + r = os.length → smTo L os os.length = smTo L os k + sm L (befTo L os k) ((Od.nums os).drop k)
  | 0, k, h => by
    have : k = os.length := by omega
    subst this
    rw [List.drop_of_length_le (by rw [Od.nums_len]; exact Nat.le_refl _)]
    simp [sm]
  | r + 1, k, h => by
    have hk : k < (Od.nums os).length := by rw [Od.nums_len]; omega
    rw [smTo_rest L os r (k + 1) (by omega), List.drop_eq_getElem_cons hk]
    have e : (Od.nums os)[k] = Od.nth os k := by rw [← Od.nums_get, Pf.getD_lt _ 0 hk]
    simp only [sm, smTo, befTo, e]
    omega
theorem smith_sm (L : List (Int × Int)) (os : List Int) : smith L os = sm L 0 (Od.nums os) := by
  rw [smith, smTo_rest L os os.length 0 (by omega)]
  simp [smTo, befTo]
theorem nums_nats : ∀ l : List Nat, Od.nums (nats l) = l
  | [] => rfl
  | x :: r => by
    show Int.toNat (x : Int) :: Od.nums (nats r) = _
    rw [nums_nats r]; rfl
theorem so_ord (L : List (Int × Int)) : Od.ordB (soL L) L.length = true := by
  have hp := Rk.rank_perm (keys L)
  rw [keys_len] at hp
  have hnd : (Rk.rank (keys L)).Nodup := hp.symm.nodup List.nodup_range
  have hl : (Rk.rank (keys L)).length = L.length := by rw [hp.length_eq]; simp
  refine Od.ordB_iff.2 ⟨soL_len L, fun i hi => ?_, fun i j hi hj e => ?_⟩
  · rw [soL, nats_get]
    have := rk_nth_lt (vs := keys L) (k := i) (by rw [keys_len]; exact hi)
    rw [keys_len] at this
    omega
  · rw [soL, nats_get, nats_get] at e
    have e2 : (Rk.rank (keys L)).getD i 0 = (Rk.rank (keys L)).getD j 0 := by omega
    rw [Pf.getD_lt _ 0 (by rw [hl]; exact hi), Pf.getD_lt _ 0 (by rw [hl]; exact hj)] at e2
    exact Od.nd_inj hnd _ _ e2
/-- No order of families costs less. -/
theorem so_least {L : List (Int × Int)} {os : List Int} (hL : famB L = true) (ho : Od.ordB os L.length = true) : smith L (soL L) ≤ smith L os := by
  have hp := Od.nums_perm ho
  rw [smith_sm, smith_sm, soL, nums_nats, ← Od.isort_rank (keys L) (l := Od.nums os) (by rw [keys_len]; exact hp)]
  exact sm_sort hL _ (fun y hy => by simpa using hp.mem_iff.1 hy) 0
end Go.Proofs.Ytljccbnkibfimaa.Fm
