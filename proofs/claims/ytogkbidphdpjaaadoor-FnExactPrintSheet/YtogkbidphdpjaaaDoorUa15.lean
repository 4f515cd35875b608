/-
  Plain facts: two sheets made one, as the program does it and as the model does.
-/
import Derived.Test.YtogkbidphdpjaaaDoorTi15
namespace Go.Proofs.YtogkbidphdpjaaaDoor
open Go.RowKit

/-- Whether a good is among others, with its size. -/
def contB (gs : List Gd) (g : Gd) : Bool := gs.any fun y => g.1.toList == y.1.toList && g.2 == y.2
def putI (out : List Gd) (g : Gd) : Option (List Gd) := if contB out g = true then some out else if hasB out g.1 = true then none else if out.length = 12 then none else some (out ++ [g])
def takeI : List Gd → List Gd → Option (List Gd)
  | out, [] => some out
  | out, g :: r => (putI out g).bind fun o => takeI o r
def pickI (out : List Gd) (ls : List (Int × Int)) (x : ByteArray) (m : Int) : Option (List (Int × Int)) := if hasB out x = true then (if ls.length = 80 then none else some (ls ++ [(fndI out x, m)])) else none
def picksI (out gb : List Gd) : List (Int × Int) → List (Int × Int) → Option (List (Int × Int))
  | ls, [] => some ls
  | ls, x :: r => (pickI out ls (gb.getD x.1.toNat gd0).1 x.2).bind fun l => picksI out gb l r
def putM (out : List Gd) (g : Gd) : Option (List Gd) := if fndI out g.1 < 0 then some (out ++ [g]) else if (out.getD (fndI out g.1).toNat gd0).2 = g.2 then some out else none
def takeM : List Gd → List Gd → Option (List Gd)
  | out, [] => some out
  | out, g :: r => (putM out g).bind fun o => takeM o r
def newM (out gb : List Gd) (x : Int × Int) : Int × Int := (fndI out (gb.getD x.1.toNat gd0).1, x.2)
theorem takeI_app (ys : List Gd) : ∀ (xs out : List Gd), takeI out (xs ++ ys) = (takeI out xs).bind fun o => takeI o ys
  | [], out => rfl
  | g :: r, out => by
    simp only [List.cons_append, takeI]
    cases putI out g with
    | none => rfl
    | some o => exact takeI_app ys r o
theorem takeM_app (ys : List Gd) : ∀ (xs out : List Gd), takeM out (xs ++ ys) = (takeM out xs).bind fun o => takeM o ys
  | [], out => rfl
  | g :: r, out => by
    simp only [List.cons_append, takeM]
    cases putM out g with
    | none => rfl
    | some o => exact takeM_app ys r o
theorem picksI_app (out gb : List Gd) (ys : List (Int × Int)) : ∀ (xs ls : List (Int × Int)), picksI out gb ls (xs ++ ys) = (picksI out gb ls xs).bind fun l => picksI out gb l ys
  | [], ls => rfl
  | x :: r, ls => by
    simp only [List.cons_append, picksI]
    cases pickI out ls (gb.getD x.1.toNat gd0).1 x.2 with
    | none => rfl
    | some l => exact picksI_app out gb ys r l
theorem split_at {α : Type} (d : α) (xs : List α) {k : Nat} (hk : k < xs.length) : xs = xs.take k ++ xs.getD k d :: xs.drop (k + 1) := by
  have e : xs.getD k d = xs[k]'hk := by simp [hk]
  rw [e, List.getElem_cons_drop, List.take_append_drop]
theorem take_at {α : Type} (d : α) (xs : List α) {k : Nat} (hk : k < xs.length) : xs.take (k + 1) = xs.take k ++ [xs.getD k d] := by
  rw [List.take_succ_eq_append_getElem hk]
  simp [hk]
/-- One good more is taken: what comes of the first k, and the next. -/
theorem takeI_step {out o gs : List Gd} {k : Nat} (hk : k < gs.length) (h : takeI out (gs.take k) = some o) : takeI out (gs.take (k + 1)) = putI o (gs.getD k gd0) := by
  rw [take_at gd0 gs hk, takeI_app, h]
  simp only [Option.bind_some, takeI]
  cases putI o (gs.getD k gd0) <;> rfl
theorem takeI_stop {out o gs : List Gd} {k : Nat} (hk : k < gs.length) (h : takeI out (gs.take k) = some o) (hn : putI o (gs.getD k gd0) = none) : takeI out gs = none := by
  rw [split_at gd0 gs hk, takeI_app, h]
  simp only [Option.bind_some, takeI, hn]
  rfl
theorem takeM_step {out o gs : List Gd} {k : Nat} (hk : k < gs.length) (h : takeM out (gs.take k) = some o) : takeM out (gs.take (k + 1)) = putM o (gs.getD k gd0) := by
  rw [take_at gd0 gs hk, takeM_app, h]
  simp only [Option.bind_some, takeM]
  cases putM o (gs.getD k gd0) <;> rfl
theorem takeM_stop {out o gs : List Gd} {k : Nat} (hk : k < gs.length) (h : takeM out (gs.take k) = some o) (hn : putM o (gs.getD k gd0) = none) : takeM out gs = none := by
  rw [split_at gd0 gs hk, takeM_app, h]
  simp only [Option.bind_some, takeM, hn]
  rfl
theorem picksI_step {out gb : List Gd} {ls l xs : List (Int × Int)} {k : Nat} (hk : k < xs.length) (h : picksI out gb ls (xs.take k) = some l) : picksI out gb ls (xs.take (k + 1)) = pickI out l (gb.getD (xs.getD k (0, 0)).1.toNat gd0).1 (xs.getD k (0, 0)).2 := by
  rw [take_at (0, 0) xs hk, picksI_app, h]
  simp only [Option.bind_some, picksI]
  cases pickI out l (gb.getD (xs.getD k (0, 0)).1.toNat gd0).1 (xs.getD k (0, 0)).2 <;> rfl
theorem picksI_stop {out gb : List Gd} {ls l xs : List (Int × Int)} {k : Nat} (hk : k < xs.length) (h : picksI out gb ls (xs.take k) = some l) (hn : pickI out l (gb.getD (xs.getD k (0, 0)).1.toNat gd0).1 (xs.getD k (0, 0)).2 = none) : picksI out gb ls xs = none := by
  rw [split_at (0, 0) xs hk, picksI_app, h]
  simp only [Option.bind_some, picksI, hn]
  rfl
theorem fnd_yes {gs : List Gd} {s : ByteArray} (h : hasB gs s = true) : ∃ i : Nat, i < gs.length ∧ fndI gs s = (i : Int) ∧ ((gs.getD i gd0).1.toList == s.toList) = true ∧ ∀ j, j < i → ((gs.getD j gd0).1.toList == s.toList) = false := by
  have h0 := fndI_has gs s
  rw [h] at h0
  have h1 := of_decide_eq_true h0
  by_cases hl : fnd gs s < gs.length
  · refine ⟨fnd gs s, hl, by rw [fndI, if_pos hl], ?_, fun j hj => ?_⟩
    · rw [Pf.getD_lt _ _ hl]
      exact List.findIdx_getElem (xs := gs) (p := fun g : Gd => g.1.toList == s.toList) (w := hl)
    · have hj' : j < gs.length := by omega
      rw [Pf.getD_lt _ _ hj']
      have := List.not_of_lt_findIdx (xs := gs) (p := fun g : Gd => g.1.toList == s.toList) hj
      simpa using this
  · rw [fndI, if_neg hl] at h1; omega
theorem fnd_not {gs : List Gd} {s : ByteArray} (h : hasB gs s = false) : fndI gs s = -1 := by
  have h0 := fndI_has gs s
  rw [h] at h0
  have h1 := of_decide_eq_false h0
  by_cases hl : fnd gs s < gs.length
  · rw [fndI, if_pos hl] at h1; omega
  · rw [fndI, if_neg hl]
/-- Goods that are good, and of which no two have one name. -/
def AllOK (gs : List Gd) : Prop := ∀ i, i < gs.length → okG gs i = true
theorem ok_parts {gs : List Gd} (h : AllOK gs) {i : Nat} (hi : i < gs.length) : nameB (gs.getD i gd0).1 = true ∧ Pf.inB (gs.getD i gd0).2 1 100 = true ∧ hasB (gs.take i) (gs.getD i gd0).1 = false := by
  have := h i hi
  simp only [okG, Bool.and_eq_true, Bool.not_eq_true'] at this
  exact ⟨this.1, this.2.1, this.2.2⟩
theorem ok_apart {gs : List Gd} (h : AllOK gs) {i j : Nat} (hij : i < j) (hj : j < gs.length) : ((gs.getD i gd0).1.toList == (gs.getD j gd0).1.toList) = false := by
  cases e : ((gs.getD i gd0).1.toList == (gs.getD j gd0).1.toList)
  · rfl
  · have := hasB_take hij (Nat.le_of_lt hj) e
    rw [(ok_parts h hj).2.2] at this
    cases this
theorem ok_index {gs : List Gd} (h : AllOK gs) {i : Nat} (hi : i < gs.length) : fndI gs (gs.getD i gd0).1 = (i : Int) :=
  fndI_at hi (beq_self_eq_true _) fun _ hj => ok_apart h hj hi
theorem ok_snoc {gs : List Gd} {g : Gd} (h : AllOK gs) (h1 : nameB g.1 = true) (h2 : Pf.inB g.2 1 100 = true) (h3 : hasB gs g.1 = false) : AllOK (gs ++ [g]) := by
  intro i hi
  simp only [List.length_append, List.length_cons, List.length_nil] at hi
  by_cases e : i < gs.length
  · have e1 : (gs ++ [g]).getD i gd0 = gs.getD i gd0 := by simp [e, List.getElem?_append_left e]
    have e2 : (gs ++ [g]).take i = gs.take i := by rw [List.take_append_of_le_length (by omega)]
    have := h i e
    unfold okG at this ⊢
    rw [e1, e2]; exact this
  · have e0 : i = gs.length := by omega
    subst e0
    have e1 : (gs ++ [g]).getD gs.length gd0 = g := by simp
    have e2 : (gs ++ [g]).take gs.length = gs := by simp
    unfold okG
    rw [e1, e2, h1, h2, h3]; rfl
theorem ok_take {gs : List Gd} (h : AllOK gs) (k : Nat) : AllOK (gs.take k) := by
  intro i hi
  simp only [List.length_take] at hi
  have e1 : (gs.take k).getD i gd0 = gs.getD i gd0 := by simp [show i < k by omega]
  have e2 : (gs.take k).take i = gs.take i := by rw [List.take_take, Nat.min_eq_left (by omega)]
  have := h i (by omega)
  unfold okG at this ⊢
  rw [e1, e2]; exact this
theorem cont_iff {out : List Gd} {g : Gd} (h : AllOK out) : contB out g = true ↔ ∃ i : Nat, i < out.length ∧ fndI out g.1 = (i : Int) ∧ (out.getD i gd0).2 = g.2 := by
  constructor
  · intro hc
    obtain ⟨y, hy, he⟩ := List.any_eq_true.1 hc
    rw [Bool.and_eq_true] at he
    obtain ⟨j, hj, rfl⟩ := List.getElem_of_mem hy
    have ej : out.getD j gd0 = out[j]'hj := by simp [hj]
    have e1 : (out[j]'hj).1.toList = g.1.toList := (eq_of_beq he.1).symm
    have hh : hasB out g.1 = true := hasB_of hj (by rw [ej, e1]; exact beq_self_eq_true _)
    obtain ⟨i, hi, hf, hi1, _⟩ := fnd_yes hh
    have e2 : i = j := by
      rcases Nat.lt_trichotomy i j with a | a | a
      · have := ok_apart h a hj
        rw [ej, e1, hi1] at this; cases this
      · exact a
      · have := ok_apart h a hi
        rw [ej, e1, eq_of_beq hi1, beq_self_eq_true] at this; cases this
    subst e2
    exact ⟨i, hi, hf, by rw [ej]; exact (eq_of_beq he.2).symm⟩
  · rintro ⟨i, hi, hf, hs⟩
    have hh : hasB out g.1 = true := by rw [← fndI_has, hf]; exact decide_eq_true (Int.natCast_nonneg _)
    obtain ⟨i', hi', hf', h1, _⟩ := fnd_yes hh
    have : i' = i := by omega
    subst this
    refine List.any_eq_true.2 ⟨out.getD i' gd0, ?_, ?_⟩
    · rw [Pf.getD_lt _ _ hi]; exact List.getElem_mem hi
    · rw [Bool.and_eq_true, hs]
      exact ⟨by rw [eq_of_beq h1]; exact beq_self_eq_true _, beq_self_eq_true _⟩
def cap12 (o : List Gd) : Option (List Gd) := if o.length ≤ 12 then some o else none
theorem put_same {out : List Gd} {g : Gd} (h : AllOK out) (h12 : out.length ≤ 12) : putI out g = (putM out g).bind cap12 := by
  unfold putI putM
  by_cases hc : contB out g = true
  · obtain ⟨i, hi, hf, hs⟩ := (cont_iff h).1 hc
    rw [if_pos hc, hf, if_neg (by omega), if_pos (by rw [Int.toNat_natCast]; exact hs)]
    simp [cap12, h12]
  · rw [if_neg hc]
    cases hh : hasB out g.1
    · rw [fnd_not hh, if_neg (show ¬ (false = true) by decide), if_pos (show (-1 : Int) < 0 by decide)]
      simp only [Option.bind_some, cap12, List.length_append, List.length_cons, List.length_nil]
      by_cases e : out.length = 12
      · rw [if_pos e, if_neg (by omega)]
      · rw [if_neg e, if_pos (by omega)]
    · obtain ⟨i, hi, hf, _⟩ := fnd_yes hh
      rw [if_pos rfl, hf, if_neg (by omega), if_neg ?_]
      · rfl
      · intro hs
        rw [Int.toNat_natCast] at hs
        exact hc ((cont_iff h).2 ⟨i, hi, hf, hs⟩)
theorem putM_has {out o : List Gd} {g : Gd} (h : AllOK out) (h1 : nameB g.1 = true) (h2 : Pf.inB g.2 1 100 = true) (hp : putM out g = some o) : AllOK o ∧ hasB o g.1 = true ∧ ∃ m, o = out ++ m := by
  unfold putM at hp
  cases hh : hasB out g.1
  · rw [fnd_not hh, if_pos (by decide)] at hp
    cases hp
    exact ⟨ok_snoc h h1 h2 hh, by simp [hasB], [g], rfl⟩
  · obtain ⟨i, hi, hf, _⟩ := fnd_yes hh
    rw [hf, if_neg (by omega)] at hp
    split at hp
    · cases hp
      exact ⟨h, hh, [], by simp⟩
    · cases hp
def GoodL (gs : List Gd) : Prop := ∀ g, g ∈ gs → nameB g.1 = true ∧ Pf.inB g.2 1 100 = true
theorem goodL_of {gs : List Gd} (h : AllOK gs) : GoodL gs := fun g hg => by
  obtain ⟨i, hi, rfl⟩ := List.getElem_of_mem hg
  have := ok_parts h hi
  rw [Pf.getD_lt _ _ hi] at this
  exact ⟨this.1, this.2.1⟩
theorem hasB_more {out m : List Gd} {s : ByteArray} (h : hasB out s = true) : hasB (out ++ m) s = true := by
  unfold hasB at h ⊢
  rw [List.any_append, h]; rfl
theorem takeM_has (gs : List Gd) : ∀ (out o : List Gd), AllOK out → GoodL gs → takeM out gs = some o → AllOK o ∧ (∀ g, g ∈ gs → hasB o g.1 = true) ∧ ∃ m, o = out ++ m := by
  induction gs with
  | nil => intro out o h _ ht; cases ht; exact ⟨h, fun g hg => (List.not_mem_nil hg).elim, [], by simp⟩
  | cons x r ih =>
    intro out o h hg ht
    rw [takeM] at ht
    cases hp : putM out x with
    | none => rw [hp] at ht; cases ht
    | some p =>
      rw [hp] at ht
      have hx := hg x (by simp)
      obtain ⟨a1, a2, m1, a3⟩ := putM_has h hx.1 hx.2 hp
      obtain ⟨b1, b2, m2, b3⟩ := ih p o a1 (fun g hg' => hg g (by simp [hg'])) ht
      refine ⟨b1, fun g hg' => ?_, m1 ++ m2, by rw [b3, a3, List.append_assoc]⟩
      rcases List.mem_cons.1 hg' with e | e
      · rw [e, b3]; exact hasB_more a2
      · exact b2 g e
theorem take_same (gs : List Gd) : ∀ (out : List Gd), AllOK out → out.length ≤ 12 → GoodL gs → takeI out gs = (takeM out gs).bind cap12 := by
  induction gs with
  | nil => intro out _ h12 _; simp [takeI, takeM, cap12, h12]
  | cons x r ih =>
    intro out h h12 hg
    have hx := hg x (by simp)
    have hg' : GoodL r := fun g h' => hg g (by simp [h'])
    rw [takeI, takeM, put_same h h12]
    cases hp : putM out x with
    | none => rfl
    | some p =>
      obtain ⟨a1, _, _⟩ := putM_has h hx.1 hx.2 hp
      simp only [Option.bind_some]
      by_cases e : p.length ≤ 12
      · rw [cap12, if_pos e]
        simp only [Option.bind_some]
        exact ih p a1 e hg'
      · rw [cap12, if_neg e]
        cases ht : takeM p r with
        | none => rfl
        | some o =>
          obtain ⟨_, _, m, b3⟩ := takeM_has r p o a1 hg' ht
          simp only [Option.bind_some, Option.bind_none, cap12]
          rw [if_neg (by rw [b3, List.length_append]; omega)]
theorem picks_same {out gb : List Gd} (xs : List (Int × Int)) : ∀ ls : List (Int × Int), ls.length ≤ 80 → (∀ x, x ∈ xs → hasB out (gb.getD x.1.toNat gd0).1 = true) →
    picksI out gb ls xs = if ls.length + xs.length ≤ 80 then some (ls ++ xs.map (newM out gb)) else none := by
  induction xs with
  | nil => intro ls h _; simp [picksI, h]
  | cons x r ih =>
    intro ls h hh
    rw [picksI, pickI, if_pos (hh x (by simp))]
    by_cases e : ls.length = 80
    · rw [if_pos e, if_neg (by simp; omega)]; rfl
    · rw [if_neg e]
      simp only [Option.bind_some]
      rw [ih _ (by simp; omega) fun y hy => hh y (by simp [hy])]
      simp only [List.length_append, List.length_cons, List.length_nil, List.map_cons, List.append_assoc, List.singleton_append, newM]
      by_cases e2 : ls.length + (0 + 1) + r.length ≤ 80
      · rw [if_pos e2, if_pos (by omega)]
      · rw [if_neg e2, if_neg (by omega)]
/-- Goods that are good are taken whole. -/
theorem takeM_self (gs : List Gd) : ∀ pre : List Gd, AllOK (pre ++ gs) → takeM pre gs = some (pre ++ gs) := by
  induction gs with
  | nil => intro pre _; simp [takeM]
  | cons x r ih =>
    intro pre h
    have hi : pre.length < (pre ++ x :: r).length := by simp
    obtain ⟨h1, h2, h3⟩ := ok_parts h hi
    have e1 : (pre ++ x :: r).getD pre.length gd0 = x := by simp
    have e2 : (pre ++ x :: r).take pre.length = pre := by simp
    rw [e1, e2] at h3
    rw [takeM, putM, fnd_not h3, if_pos (by decide)]
    simp only [Option.bind_some]
    rw [ih (pre ++ [x]) (by simpa using h)]
    simp
def sheetI (st : List Gd × List (Int × Int)) (gs : List Gd) (ls : List (Int × Int)) : Option (List Gd × List (Int × Int)) :=
  if sheetB gs ls = true then (takeI st.1 gs).bind fun o => (picksI o gs st.2 ls).bind fun l => some (o, l) else none
def joinI (ga : List Gd) (la : List (Int × Int)) (gb : List Gd) (lb : List (Int × Int)) : Option (List Gd × List (Int × Int)) := (sheetI ([], []) ga la).bind fun st => sheetI st gb lb
def joinM (ga : List Gd) (la : List (Int × Int)) (gb : List Gd) (lb : List (Int × Int)) : Option (List Gd × List (Int × Int)) :=
  if (sheetB ga la && sheetB gb lb) = true then (takeM ga gb).bind fun o => if sheetB o (la ++ lb.map (newM o gb)) = true then some (o, la ++ lb.map (newM o gb)) else none else none
theorem sheet_parts {gs : List Gd} {ls : List (Int × Int)} (h : sheetB gs ls = true) : AllOK gs ∧ gs.length ≤ 12 ∧ ls.length ≤ 80 ∧ ∀ i, i < ls.length → lineB gs.length (ls.getD i (0, 0)) = true := by
  simp only [sheetB, Bool.and_eq_true] at h
  exact ⟨fun i hi => goodsB_at h.1 hi, goodsB_len h.1, linesB_len h.2, fun i hi => linesB_at h.2 hi⟩
theorem line_parts {n : Nat} {x : Int × Int} (h : lineB n x = true) : 0 ≤ x.1 ∧ x.1.toNat < n ∧ Pf.inB x.2 1 99 = true := by
  simp only [lineB, Bool.and_eq_true] at h
  have := Pf.inB_yes h.1
  exact ⟨this.1, by omega, h.2⟩
theorem sheet_self {gs : List Gd} {ls : List (Int × Int)} (h : sheetB gs ls = true) : sheetI ([], []) gs ls = some (gs, ls) := by
  obtain ⟨h1, h2, h3, h4⟩ := sheet_parts h
  have n0 : AllOK [] := fun i hi => absurd hi (Nat.not_lt_zero _)
  have t0 : takeI [] gs = some gs := by
    rw [take_same gs [] n0 (by simp) (goodL_of h1), takeM_self gs [] (by simpa using h1)]
    simp [cap12, h2]
  have hm : ∀ x, x ∈ ls → 0 ≤ x.1 ∧ x.1.toNat < gs.length := fun x hx => by
    obtain ⟨i, hi, rfl⟩ := List.getElem_of_mem hx
    have := line_parts (h4 i hi)
    rw [Pf.getD_lt _ _ hi] at this
    exact ⟨this.1, this.2.1⟩
  have hx : ∀ x, x ∈ ls → newM gs gs x = x := fun x hx => by
    obtain ⟨a, b⟩ := hm x hx
    unfold newM
    rw [ok_index h1 b, Int.toNat_of_nonneg a]
  unfold sheetI
  rw [if_pos h]
  simp only [t0, Option.bind_some]
  rw [picks_same ls [] (by simp) fun x hx' => by
    have := hm x hx'
    rw [← fndI_has, ok_index h1 this.2]; exact decide_eq_true (Int.natCast_nonneg _)]
  rw [if_pos (by simpa using h3)]
  have e : ls.map (newM gs gs) = ls := by
    conv => rhs; rw [← List.map_id ls]
    exact List.map_congr_left fun x h' => hx x h'
  simp [e]
theorem join_same (ga : List Gd) (la : List (Int × Int)) (gb : List Gd) (lb : List (Int × Int)) : joinI ga la gb lb = joinM ga la gb lb := by
  unfold joinI joinM
  cases ha : sheetB ga la
  · rw [if_neg (by simp)]
    unfold sheetI
    rw [if_neg (by rw [ha]; decide)]; rfl
  · rw [sheet_self ha]
    simp only [Option.bind_some, Bool.true_and]
    unfold sheetI
    cases hb : sheetB gb lb
    · rfl
    · obtain ⟨a1, a2, a3, a4⟩ := sheet_parts ha
      obtain ⟨b1, b2, b3, b4⟩ := sheet_parts hb
      rw [if_pos rfl, if_pos rfl]
      simp only
      rw [take_same gb ga a1 a2 (goodL_of b1)]
      cases ht : takeM ga gb with
      | none => rfl
      | some o =>
        obtain ⟨c1, c2, m, c3⟩ := takeM_has gb ga o a1 (goodL_of b1) ht
        have hl : ga.length ≤ o.length := by rw [c3, List.length_append]; omega
        have hm : ∀ x, x ∈ lb → hasB o (gb.getD x.1.toNat gd0).1 = true := fun x hx => by
          obtain ⟨i, hi, rfl⟩ := List.getElem_of_mem hx
          have := line_parts (b4 i hi)
          rw [Pf.getD_lt _ _ hi] at this
          refine c2 _ ?_
          rw [Pf.getD_lt _ _ this.2.1]
          exact List.getElem_mem _
        have hlines : ∀ i, i < (la ++ lb.map (newM o gb)).length → lineB o.length ((la ++ lb.map (newM o gb)).getD i (0, 0)) = true := fun i hi => by
          by_cases e : i < la.length
          · have e1 : (la ++ lb.map (newM o gb)).getD i (0, 0) = la.getD i (0, 0) := by simp [List.getElem?_append_left e]
            rw [e1]
            obtain ⟨p1, p2, p3⟩ := line_parts (a4 i e)
            simp only [lineB, Bool.and_eq_true]
            exact ⟨Pf.inB_of p1 (by omega), p3⟩
          · have hj : i - la.length < lb.length := by simp at hi; omega
            have e1 : (la ++ lb.map (newM o gb)).getD i (0, 0) = newM o gb (lb.getD (i - la.length) (0, 0)) := by
              simp [List.getElem?_append_right (show la.length ≤ i by omega), hj]
            rw [e1]
            obtain ⟨p1, p2, p3⟩ := line_parts (b4 _ hj)
            have hmem : lb.getD (i - la.length) (0, 0) ∈ lb := by rw [Pf.getD_lt _ _ hj]; exact List.getElem_mem hj
            obtain ⟨k, hk, hf, _⟩ := fnd_yes (hm _ hmem)
            simp only [lineB, Bool.and_eq_true, newM]
            exact ⟨by rw [hf]; exact Pf.inB_of (by omega) (by omega), p3⟩
        have hS : sheetB o (la ++ lb.map (newM o gb)) = (decide (o.length ≤ 12) && decide (la.length + lb.length ≤ 80)) := by
          rw [sheetB_all hlines, goodsB_all c1]
          simp
        simp only [Option.bind_some]
        rw [hS]
        by_cases e12 : o.length ≤ 12
        · rw [cap12, if_pos e12]
          simp only [Option.bind_some]
          rw [picks_same lb la a3 hm]
          by_cases e80 : la.length + lb.length ≤ 80
          · rw [if_pos e80, if_pos (by simp [e12, e80])]; rfl
          · rw [if_neg e80, if_neg (by simp [e80])]; rfl
        · rw [cap12, if_neg e12, if_neg (by simp [e12])]; rfl
end Go.Proofs.YtogkbidphdpjaaaDoor
