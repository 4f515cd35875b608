/-
  Plain facts, of no program: a way as lists: the bins that are left, those gone to, the loads on the way.
-/
import Derived.Test.YtcniegaogdggaaaKl
namespace Go.Proofs.Ytcniegaogdggaaa.Hu

def leftN (n : Nat) (gn : Nat → Bool) : List Nat := (List.range n).filter fun b => !gn b
def cast (l : List Nat) : List Int := l.map fun (b : Nat) => (b : Int)
theorem cast_len (l : List Nat) : (cast l).length = l.length := by simp [cast]
theorem cast_get (l : List Nat) {i : Nat} (h : i < l.length) : (cast l).getD i 0 = ((l.getD i 0 : Nat) : Int) := by simp [cast, h]
theorem cast_mem {l : List Nat} {b : Nat} : (b : Int) ∈ cast l ↔ b ∈ l := by
  simp only [cast, List.mem_map]
  constructor
  · rintro ⟨a, h, e⟩
    have : a = b := by omega
    exact this ▸ h
  · intro h; exact ⟨b, h, rfl⟩
theorem left_mem {n b : Nat} {gn : Nat → Bool} : b ∈ leftN n gn ↔ b < n ∧ gn b = false := by simp [leftN]
theorem left_nodup (n : Nat) (gn : Nat → Bool) : (leftN n gn).Nodup := (List.nodup_range).filter _
theorem left_succ (n : Nat) (gn : Nat → Bool) : leftN (n + 1) gn = leftN n gn ++ (if gn n = false then [n] else []) := by
  unfold leftN
  rw [List.range_succ, List.filter_append]
  congr 1
  cases h : gn n <;> simp [h]
/-- The first of the smallest. -/
def pickN (ls : Fn) (o : Option Nat) (x : Nat) : Option Nat := match o with
  | none => some x
  | some b => if ls x < ls b then some x else some b
def bestN (ls : Fn) (l : List Nat) : Option Nat := l.foldl (pickN ls) none
theorem best_snoc (ls : Fn) (l : List Nat) (x : Nat) : bestN ls (l ++ [x]) = pickN ls (bestN ls l) x := by simp [bestN]
theorem best_left (ls : Fn) (gn : Nat → Bool) : ∀ n, bestTo ls gn n = bestN ls (leftN n gn)
  | 0 => rfl
  | n + 1 => by
    rw [bestTo, left_succ, best_left ls gn n]
    cases h : gn n
    · simp only [if_true]
      rw [best_snoc]
      cases e : bestN ls (leftN n gn) with
      | none => simp [pickN]
      | some b => simp [pickN]
    · simp only [Bool.true_eq_false, if_false, List.append_nil, false_and]
      cases e : bestN ls (leftN n gn) <;> rfl
theorem fold_congr {ls ls' : Fn} : ∀ {l : List Nat} {o : Option Nat}, (∀ b, b ∈ l → ls b = ls' b) → (∀ b, o = some b → ls b = ls' b) → l.foldl (pickN ls) o = l.foldl (pickN ls') o ∧ ∀ b, l.foldl (pickN ls) o = some b → b ∈ l ∨ o = some b
  | [], o, _, _ => ⟨rfl, fun b h => Or.inr h⟩
  | x :: l, o, h, ho => by
    have hx := h x List.mem_cons_self
    have e : pickN ls o x = pickN ls' o x := by
      cases o with
      | none => rfl
      | some d => simp only [pickN]; rw [hx, ho d rfl]
    have hp : ∀ b, pickN ls o x = some b → ls b = ls' b ∧ (b = x ∨ o = some b) := by
      intro b hb
      cases o with
      | none => simp only [pickN, Option.some.injEq] at hb; subst hb; exact ⟨hx, Or.inl rfl⟩
      | some d =>
        simp only [pickN] at hb
        split at hb
        · cases hb; exact ⟨hx, Or.inl rfl⟩
        · cases hb; exact ⟨ho _ rfl, Or.inr rfl⟩
    obtain ⟨h1, h2⟩ := fold_congr (l := l) (o := pickN ls o x) (fun b hb => h b (List.mem_cons_of_mem _ hb)) (fun b hb => (hp b hb).1)
    refine ⟨?_, fun b hb => ?_⟩
    · rw [List.foldl_cons, List.foldl_cons, ← e]; exact h1
    · rcases h2 b hb with h' | h'
      · exact Or.inl (List.mem_cons_of_mem _ h')
      · rcases (hp b h').2 with h'' | h''
        · exact Or.inl (by rw [h'']; exact List.mem_cons_self)
        · exact Or.inr h''
theorem best_congr {ls ls' : Fn} {l : List Nat} (h : ∀ b, b ∈ l → ls b = ls' b) : bestN ls l = bestN ls' l := (fold_congr h (fun b hb => by cases hb)).1
theorem best_mem {ls : Fn} {l : List Nat} {b : Nat} (h : bestN ls l = some b) : b ∈ l := by
  rcases (fold_congr (ls := ls) (ls' := ls) (l := l) (o := none) (fun _ _ => rfl) (fun _ _ => rfl)).2 b h with h | h
  · exact h
  · cases h
/-- Loads on the way, once each bin of g was gone to (the last one first). -/
def loadsW (o : Fn) (L : Nat) : List Nat → List Nat
  | [] => []
  | _ :: r => loadsW o L r ++ [ld o L (lastOf r)]
theorem loadsW_len (o : Fn) (L : Nat) : ∀ g, (loadsW o L g).length = g.length
  | [] => rfl
  | _ :: r => by simp [loadsW, loadsW_len o L r]
theorem loadsW_mem {o : Fn} {L i : Nat} : ∀ {d : Nat} {g : List Nat}, i ∈ loadsW o L (d :: g) ↔ ∃ f, PR g f ∧ ld o L f = i
  | d, [] => by
    simp only [loadsW, List.nil_append, List.mem_singleton]
    constructor
    · rintro rfl; exact ⟨-1, Or.inl rfl, rfl⟩
    · rintro ⟨f, e | ⟨b, hb, _⟩, h⟩
      · subst e; exact h.symm
      · cases hb
  | d, b :: r => by
    rw [loadsW, List.mem_append, loadsW_mem, List.mem_singleton]
    constructor
    · rintro (⟨f, h1, h2⟩ | rfl)
      · exact ⟨f, h1.more b, h2⟩
      · exact ⟨(b : Int), Or.inr ⟨b, List.mem_cons_self, rfl⟩, rfl⟩
    · rintro ⟨f, e | ⟨c, hc, e⟩, h⟩
      · exact Or.inl ⟨f, Or.inl e, h⟩
      · rcases List.mem_cons.1 hc with rfl | hc
        · right; subst e; exact h.symm
        · exact Or.inl ⟨f, Or.inr ⟨c, hc, e⟩, h⟩
theorem ld_inj {n : Nat} {o : Fn} {L : Nat} (ho : Ow n o L) {g : List Nat} (hg : ∀ b, b ∈ g → b < n) (hw : ∀ b, b ∈ g → 0 ≤ o b) {f f' : Int} (h : PR g f) (h' : PR g f') (e : ld o L f = ld o L f') : f = f' := by
  rcases h with rfl | ⟨b, hb, rfl⟩
  · rcases h' with rfl | ⟨c, hc, rfl⟩
    · rfl
    · have h1 := hw c hc
      have : ¬ ((c : Int) < 0) := by omega
      simp only [ld, if_neg this, Int.toNat_natCast, show (-1 : Int) < 0 by decide, if_true] at e
      rcases ho.is c (hg c hc) with h | h <;> omega
  · have h1 := hw b hb
    have hb0 : ¬ ((b : Int) < 0) := by omega
    rcases h' with rfl | ⟨c, hc, rfl⟩
    · simp only [ld, if_neg hb0, Int.toNat_natCast, show (-1 : Int) < 0 by decide, if_true] at e
      rcases ho.is b (hg b hb) with h | h <;> omega
    · have h2 := hw c hc
      have hc0 : ¬ ((c : Int) < 0) := by omega
      simp only [ld, if_neg hb0, if_neg hc0, Int.toNat_natCast] at e
      have := ho.inj b (hg b hb) c (hg c hc) h1 (by omega)
      rw [this]
theorem loadsW_nodup {n : Nat} {o : Fn} {L : Nat} (ho : Ow n o L) : ∀ {d : Nat} {g : List Nat}, (∀ b, b ∈ g → b < n) → (∀ b, b ∈ g → 0 ≤ o b) → g.Nodup → (loadsW o L (d :: g)).Nodup
  | d, [], _, _, _ => by simp [loadsW]
  | d, b :: r, hg, hw, hnd => by
    rw [loadsW, List.nodup_append]
    refine ⟨loadsW_nodup ho (fun x hx => hg x (List.mem_cons_of_mem _ hx)) (fun x hx => hw x (List.mem_cons_of_mem _ hx)) (List.nodup_cons.1 hnd).2, by simp, fun x hx y hy => ?_⟩
    rw [List.mem_singleton] at hy
    subst hy
    obtain ⟨f, hf, e⟩ := loadsW_mem.1 hx
    intro e'
    have := ld_inj ho hg hw (hf.more b) (PR.last (b :: r)) (by rw [e]; exact e')
    rcases hf with h | ⟨c, hc, h⟩
    · simp [lastOf] at this; omega
    · rw [h] at this
      simp only [lastOf] at this
      have : c = b := by omega
      subst this
      exact (List.nodup_cons.1 hnd).1 hc
/-- Numbers at some places, each more by as much. -/
def addAt (y : Int) : List Int → List Nat → List Int
  | us, [] => us
  | us, i :: l => addAt y (us.set i (us.getD i 0 + y)) l
theorem addAt_len (y : Int) : ∀ (l : List Nat) (us : List Int), (addAt y us l).length = us.length
  | [], us => rfl
  | i :: l, us => by rw [addAt, addAt_len]; simp
theorem addAt_snoc (y : Int) : ∀ (l : List Nat) (us : List Int) (i : Nat), addAt y us (l ++ [i]) = (addAt y us l).set i ((addAt y us l).getD i 0 + y)
  | [], us, i => rfl
  | j :: l, us, i => by rw [List.cons_append, addAt, addAt_snoc y l]; rfl
theorem addAt_get (y : Int) {l : List Nat} (hd : l.Nodup) (us : List Int) {i : Nat} (hi : i < us.length) : (addAt y us l).getD i 0 = if i ∈ l then us.getD i 0 + y else us.getD i 0 := by
  induction l generalizing us with
  | nil => simp [addAt]
  | cons j l ih =>
    obtain ⟨h1, h2⟩ := List.nodup_cons.1 hd
    rw [addAt, ih h2 _ (by simpa using hi), set_get9 _ _ _ _ hi]
    by_cases e : i = j
    · subst e
      rw [if_neg h1, if_pos rfl, if_pos (by simp)]
    · rw [if_neg e]
      simp [e]
theorem tab_ext {n : Nat} {f : Fn} {xs : List Int} (hx : xs.length = n) (h : ∀ i, i < n → xs.getD i 0 = f i) : xs = tab n f := by
  apply List.ext_getElem
  · rw [hx, tab_len]
  · intro i h1 h2
    have := h i (by omega)
    simp [tab]
    simpa [h1] using this
/-- What the program keeps of the least ones and of whom they were seen from. -/
def mx : Int := 9223372036854775807
structure LsR (n : Nat) (o : Fn) (L : Nat) (S : Sk) (g : List Nat) (xs ys : List Int) : Prop where
  l0 : g = [] → ∀ b, b < n → xs.getD b 0 = mx
  l1 : g ≠ [] → ∀ b, b < n → b ∉ g → xs.getD b 0 = S.ls b
  fr : g ≠ [] → ∀ b, b < n → ys.getD b 0 = ((ld o L (S.fr b) : Nat) : Int)
def seeX (lf : List Nat) (rs xs : List Int) : List Int := tab 10 fun b => if b ∈ lf ∧ rs.getD b 0 < xs.getD b 0 then rs.getD b 0 else xs.getD b 0
def seeY (lf : List Nat) (rs xs ys : List Int) (i : Int) : List Int := tab 10 fun b => if b ∈ lf ∧ rs.getD b 0 < xs.getD b 0 then i else ys.getD b 0
def decX (lf : List Nat) (xs : List Int) (y : Int) : List Int := tab 10 fun b => if b ∈ lf then xs.getD b 0 - y else xs.getD b 0
/-- What a load costs in each bin, less both prices. -/
def restR (c : List (List Int)) (us vs : List Int) (i : Nat) : List Int := tab 10 fun b => (pad (c.getD i [])).getD b 0 - (bothR us vs i).getD b 0
theorem restR_get {c : List (List Int)} {u v : Fn} {n i b : Nat} (hn : n ≤ 10) (hi : i < n) (hb : b < n) : (restR c (tab n u) (tab n v) i).getD b 0 = sl c u v i b := by
  rw [restR, tab_get _ (by omega), pad_get _ (by omega), bothR_get _ _ _ (by omega), bothAt, tab_len, if_pos hb, tab_get _ hb, tab_get _ hi, sl, ct]
  omega
/-- Behind a load's look. -/
theorem see_is {c : List (List Int)} {n : Nat} {o : Fn} {L : Nat} {S : Sk} {g : List Nat} {xs ys : List Int} (hc : Good c n) (ho : Ow n o L) (hL : L < n) (h : In c n o L S g) (hx : 0 ≤ nx o L S.la) (hr : LsR n o L S g xs ys) (hn : n ≤ 10) :
    (∀ b, b < n → b ∉ g → (seeX (leftN n S.gn) (restR c (tab n S.u) (tab n S.v) (ld o L S.la)) xs).getD b 0 = lsN c o L S b) ∧
    (∀ b, b < n → (seeY (leftN n S.gn) (restR c (tab n S.u) (tab n S.v) (ld o L S.la)) xs ys (ld o L S.la)).getD b 0 = ((ld o L (frN c o L S b) : Nat) : Int)) := by
  have hw : ∀ b, b ∈ g → 0 ≤ o b := by
    intro b hb
    cases g with
    | nil => cases hb
    | cons d r =>
      rcases List.mem_cons.1 hb with rfl | hb
      · have e := h.la
        rw [e] at hx
        have : ¬ ((b : Int) < 0) := by omega
        simpa [nx, lastOf, this] using hx
      · exact h.own b hb
  have hLa : PR g S.la := by rw [h.la]; exact PR.last g
  have hli : ld o L S.la < n := ld_lt ho hL h.gb hw hLa
  obtain ⟨z, hz, hzf⟩ := ho.free hL
  have hub := h.pr.ub hc hz hzf
  have hgn : ∀ b, b < n → (S.gn b = false ↔ b ∉ g) := fun b hb => by
    have := h.gl b hb
    cases e : S.gn b
    · simp only [true_iff]; intro hm; rw [this.2 hm] at e; cases e
    · simp only [Bool.true_eq_false, false_iff]; exact fun hn => hn (this.1 e)
  have slb : ∀ b, b < n → sl c S.u S.v (ld o L S.la) b ≤ 300 := fun b hb => by
    have h2 := (hc.cl _ hli b hb).2
    have h3 := h.pr.up _ hli
    have h4 : -100 ≤ S.v b := by
      rcases ho.is b hb with e | e
      · have := h.pr.vz b hb (by omega); omega
      · have h5 := h.pr.ti b hb e.1
        have h6 := hub (o b).toNat (by omega)
        have h7 := (hc.cl (o b).toNat (by omega) b hb).1
        omega
    unfold sl; omega
  have key : ∀ b, b < n → ((b ∈ leftN n S.gn ∧ (restR c (tab n S.u) (tab n S.v) (ld o L S.la)).getD b 0 < xs.getD b 0) ↔ (S.gn b = false ∧ sl c S.u S.v (ld o L S.la) b < S.ls b)) := by
    intro b hb
    rw [restR_get hn hli hb, left_mem]
    constructor
    · rintro ⟨⟨_, h1⟩, h2⟩
      refine ⟨h1, ?_⟩
      by_cases hg : g = []
      · rw [h.l0 hg b hb]; have := slb b hb; unfold far; omega
      · rw [hr.l1 hg b hb ((hgn b hb).1 h1)] at h2; exact h2
    · rintro ⟨h1, h2⟩
      refine ⟨⟨hb, h1⟩, ?_⟩
      by_cases hg : g = []
      · rw [hr.l0 hg b hb]; have := slb b hb; unfold mx; omega
      · rw [hr.l1 hg b hb ((hgn b hb).1 h1)]; exact h2
  refine ⟨fun b hb hg => ?_, fun b hb => ?_⟩
  · rw [seeX, tab_get _ (by omega), lsN]
    by_cases e : S.gn b = false ∧ sl c S.u S.v (ld o L S.la) b < S.ls b
    · rw [if_pos ((key b hb).2 e), if_pos e, restR_get hn hli hb]
    · rw [if_neg (fun h' => e ((key b hb).1 h')), if_neg e]
      by_cases hg0 : g = []
      · exfalso
        refine e ⟨(hgn b hb).2 hg, ?_⟩
        rw [h.l0 hg0 b hb]; have := slb b hb; unfold far; omega
      · exact hr.l1 hg0 b hb hg
  · rw [seeY, tab_get _ (by omega), frN]
    by_cases e : S.gn b = false ∧ sl c S.u S.v (ld o L S.la) b < S.ls b
    · rw [if_pos ((key b hb).2 e), if_pos e]
    · rw [if_neg (fun h' => e ((key b hb).1 h')), if_neg e]
      by_cases hg0 : g = []
      · exfalso
        refine e ⟨(hgn b hb).2 (by rw [hg0]; simp), ?_⟩
        rw [h.l0 hg0 b hb]; have := slb b hb; unfold far; omega
      · exact hr.fr hg0 b hb
end Go.Proofs.Ytcniegaogdggaaa.Hu
