/-
  Plain facts, of no program: one round of the model's seek, bin by bin.
-/
import Derived.Test.YtcniegaogdggaaaKo
namespace Go.Proofs.Ytcniegaogdggaaa.Hu

def lsK (c : List (List Int)) (o : Fn) (L : Nat) (S : Sk) (k : Nat) : Fn := fun b => if b < k then lsN c o L S b else S.ls b
def frK (c : List (List Int)) (o : Fn) (L : Nat) (S : Sk) (k : Nat) : Fn := fun b => if b < k then frN c o L S b else S.fr b
theorem lsK_at (c : List (List Int)) (o : Fn) (L : Nat) (S : Sk) (k : Nat) : lsK c o L S k k = S.ls k := by simp [lsK]
theorem lsK_set {c : List (List Int)} {o : Fn} {L : Nat} {S : Sk} {k : Nat} (h : S.gn k = false ∧ sl c S.u S.v (ld o L S.la) k < S.ls k) (i : Nat) : upd (lsK c o L S k) k (sl c S.u S.v (ld o L S.la) k) i = lsK c o L S (k + 1) i := by
  by_cases e : i = k
  · subst e; rw [upd_same, lsK, if_pos (by omega), lsN, if_pos h]
  · rw [upd_else _ _ e]; simp only [lsK, show (i < k + 1 ↔ i < k) by omega]
theorem frK_set {c : List (List Int)} {o : Fn} {L : Nat} {S : Sk} {k : Nat} (h : S.gn k = false ∧ sl c S.u S.v (ld o L S.la) k < S.ls k) (i : Nat) : upd (frK c o L S k) k S.la i = frK c o L S (k + 1) i := by
  by_cases e : i = k
  · subst e; rw [upd_same, frK, if_pos (by omega), frN, if_pos h]
  · rw [upd_else _ _ e]; simp only [frK, show (i < k + 1 ↔ i < k) by omega]
theorem lsK_same {c : List (List Int)} {o : Fn} {L : Nat} {S : Sk} {k : Nat} (h : ¬ (S.gn k = false ∧ sl c S.u S.v (ld o L S.la) k < S.ls k)) (i : Nat) : lsK c o L S k i = lsK c o L S (k + 1) i := by
  by_cases e : i = k
  · subst e; rw [lsK_at, lsK, if_pos (by omega), lsN, if_neg h]
  · simp only [lsK, show (i < k + 1 ↔ i < k) by omega]
theorem frK_same {c : List (List Int)} {o : Fn} {L : Nat} {S : Sk} {k : Nat} (h : ¬ (S.gn k = false ∧ sl c S.u S.v (ld o L S.la) k < S.ls k)) (i : Nat) : frK c o L S k i = frK c o L S (k + 1) i := by
  by_cases e : i = k
  · subst e; rw [frK, if_neg (by omega), frK, if_pos (by omega), frN, if_neg h]
  · simp only [frK, show (i < k + 1 ↔ i < k) by omega]
def uK (o u : Fn) (L : Nat) (gn : Nat → Bool) (y : Int) (k : Nat) : Fn := fun i => if onB k o L gn i then u i + y else u i
def vK (v : Fn) (gn : Nat → Bool) (y : Int) (k : Nat) : Fn := fun b => if b < k ∧ gn b = true then v b - y else v b
def lK (ls : Fn) (gn : Nat → Bool) (y : Int) (k : Nat) : Fn := fun b => if b < k ∧ gn b = false then ls b - y else ls b
theorem on_zero (o : Fn) (L : Nat) (gn : Nat → Bool) (i : Nat) : onB 0 o L gn i = decide (i = L) := by simp [onB]
theorem on_succ (o : Fn) (L : Nat) (gn : Nat → Bool) (k i : Nat) : onB (k + 1) o L gn i = (onB k o L gn i || (gn k && decide (o k = (i : Int)))) := by
  simp only [onB, List.range_succ, List.any_append, List.any_cons, List.any_nil, Bool.or_false, Bool.or_assoc]
theorem uK_zero (o u : Fn) (L : Nat) (gn : Nat → Bool) (y : Int) (i : Nat) : upd u L (u L + y) i = uK o u L gn y 0 i := by
  unfold uK; rw [on_zero]
  by_cases e : i = L
  · subst e; simp [upd]
  · simp [upd, e]
theorem uK_off {o u : Fn} {L n k : Nat} {gn : Nat → Bool} {y : Int} (ho : Ow n o L) (hk : k < n) (h0 : 0 ≤ o k) : uK o u L gn y k (o k).toNat = u (o k).toNat := by
  have : onB k o L gn (o k).toNat = false := by
    rw [Bool.eq_false_iff]
    intro h
    simp only [onB, Bool.or_eq_true, decide_eq_true_eq, List.any_eq_true, List.mem_range, Bool.and_eq_true] at h
    rcases h with h | ⟨b, hb, _, h2⟩
    · rcases ho.is k hk with e | e <;> omega
    · have := ho.inj k hk b (by omega) h0 (by omega); omega
  rw [uK, this]; simp
theorem uK_set {o u : Fn} {L k : Nat} {gn : Nat → Bool} {y : Int} (hg : gn k = true) (h0 : 0 ≤ o k) (i : Nat) : upd (uK o u L gn y k) (o k).toNat (u (o k).toNat + y) i = uK o u L gn y (k + 1) i := by
  by_cases e : i = (o k).toNat
  · subst e
    rw [upd_same, uK, on_succ, hg]
    have : decide (o k = (((o k).toNat : Nat) : Int)) = true := by rw [decide_eq_true_eq]; omega
    rw [this]; simp
  · rw [upd_else _ _ e]
    have : decide (o k = (i : Int)) = false := by rw [decide_eq_false_iff_not]; omega
    unfold uK; rw [on_succ, this]; simp
theorem uK_same {o u : Fn} {L k : Nat} {gn : Nat → Bool} {y : Int} (hg : gn k = false) (i : Nat) : uK o u L gn y k i = uK o u L gn y (k + 1) i := by
  unfold uK; rw [on_succ, hg]; simp
theorem vK_at (v : Fn) (gn : Nat → Bool) (y : Int) (k : Nat) : vK v gn y k k = v k := by simp [vK]
theorem vK_set {v : Fn} {gn : Nat → Bool} {y : Int} {k : Nat} (hg : gn k = true) (i : Nat) : upd (vK v gn y k) k (v k - y) i = vK v gn y (k + 1) i := by
  by_cases e : i = k
  · subst e; rw [upd_same, vK, if_pos ⟨by omega, hg⟩]
  · rw [upd_else _ _ e]; simp only [vK, show (i < k + 1 ↔ i < k) by omega]
theorem vK_same {v : Fn} {gn : Nat → Bool} {y : Int} {k : Nat} (hg : gn k = false) (i : Nat) : vK v gn y k i = vK v gn y (k + 1) i := by
  by_cases e : i = k
  · subst e; rw [vK_at, vK, if_neg (by rw [hg]; simp)]
  · simp only [vK, show (i < k + 1 ↔ i < k) by omega]
theorem lK_at (ls : Fn) (gn : Nat → Bool) (y : Int) (k : Nat) : lK ls gn y k k = ls k := by simp [lK]
theorem lK_set {ls : Fn} {gn : Nat → Bool} {y : Int} {k : Nat} (hg : gn k = false) (i : Nat) : upd (lK ls gn y k) k (ls k - y) i = lK ls gn y (k + 1) i := by
  by_cases e : i = k
  · subst e; rw [upd_same, lK, if_pos ⟨by omega, hg⟩]
  · rw [upd_else _ _ e]; simp only [lK, show (i < k + 1 ↔ i < k) by omega]
theorem lK_same {ls : Fn} {gn : Nat → Bool} {y : Int} {k : Nat} (hg : gn k = true) (i : Nat) : lK ls gn y k i = lK ls gn y (k + 1) i := by
  by_cases e : i = k
  · subst e; rw [lK_at, lK, if_neg (by rw [hg]; simp)]
  · simp only [lK, show (i < k + 1 ↔ i < k) by omega]
/-- What one round leaves. -/
theorem round_u (c : List (List Int)) (n : Nat) (o : Fn) (L : Nat) (S : Sk) (i : Nat) : uK o S.u L S.gn (byN c n o L S) n i = (step c n o L S).u i := rfl
theorem round_v {c : List (List Int)} {n : Nat} {o : Fn} {L : Nat} {S : Sk} {i : Nat} (hi : i < n) : vK S.v S.gn (byN c n o L S) n i = (step c n o L S).v i := by
  show _ = if S.gn i then S.v i - byN c n o L S else S.v i
  simp [vK, hi]
theorem round_l {c : List (List Int)} {n : Nat} {o : Fn} {L : Nat} {S : Sk} {i : Nat} (hi : i < n) : lK (lsN c o L S) S.gn (byN c n o L S) n i = (step c n o L S).ls i := by
  show _ = if S.gn i then lsN c o L S i else lsN c o L S i - byN c n o L S
  cases h : S.gn i <;> simp [lK, hi, h]
/-- The best so far, as a number. -/
def bestI (ls : Fn) (gn : Nat → Bool) (k : Nat) : Int := match bestTo ls gn k with
  | none => -1
  | some b => (b : Int)
theorem bestI_gone {ls : Fn} {gn : Nat → Bool} {k : Nat} (h : gn k = true) : bestI ls gn (k + 1) = bestI ls gn k := by
  unfold bestI; rw [bestTo]
  cases bestTo ls gn k <;> simp [h]
theorem bestI_first {ls : Fn} {gn : Nat → Bool} {k : Nat} (h : gn k = false) (hn : bestTo ls gn k = none) : bestI ls gn (k + 1) = (k : Int) := by
  unfold bestI; rw [bestTo, hn]; simp [h]
theorem bestI_less {ls : Fn} {gn : Nat → Bool} {k b : Nat} (h : gn k = false) (hn : bestTo ls gn k = some b) (hl : ls k < ls b) : bestI ls gn (k + 1) = (k : Int) := by
  unfold bestI; rw [bestTo, hn]; simp [h, hl]
theorem bestI_more {ls : Fn} {gn : Nat → Bool} {k b : Nat} (hn : bestTo ls gn k = some b) (hl : ¬ ls k < ls b) : bestI ls gn (k + 1) = (b : Int) := by
  unfold bestI; rw [bestTo, hn]; simp [hl]
/-- The way back, one step. -/
theorem back_on {fr o : Fn} {L k : Nat} {b : Nat} : back fr L (k + 1) o (b : Int) = back fr L k (upd o b (if fr b < 0 then (L : Int) else o (fr b).toNat)) (fr b) := by
  rw [back, if_neg (by omega)]; simp
theorem back_off {fr o : Fn} {L k : Nat} : back fr L k o (-1) = o := by cases k <;> simp [back]
end Go.Proofs.Ytcniegaogdggaaa.Hu
