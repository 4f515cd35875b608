/-
  In one: Ja12, Jg12, Jc0, Qw0, Qa, In12, It12, Iu12, Ja, Jb, Ib12, Ij12, Iv12, Im12, Iq12.
-/
import Derived.Test.YtnchkgblpnompaaX1
import Derived.Deep.RegionHeld3
import Derived.Deep.AppendLies
import Derived.Deep.RegionLaw
import Derived.BigQuiet
import Derived.Deep.DeepCutAuto
import Derived.Shelf.Abstract
namespace Go.Proofs.Ytnchkgblpnompaa.It

def sz (l : List Int) (k : Int) : Int := l.getD k.toNat 0
theorem box_some {l : List Int} : ∀ {b seen s : List Int} {h h' : Int}, boxW l b seen h = some (s, h') → s = seen ++ b ∧ h' = h + (b.map (sz l)).sum
  | [], seen, s, h, h', e => by
    simp only [boxW, Option.some.injEq, Prod.mk.injEq] at e
    exact ⟨by rw [← e.1]; simp, by rw [← e.2]; simp⟩
  | k :: b, seen, s, h, h', e => by
    simp only [boxW] at e
    split at e
    · obtain ⟨h1, h2⟩ := box_some e
      refine ⟨by rw [h1]; simp, ?_⟩
      rw [h2, List.map_cons, List.sum_cons]
      unfold sz
      omega
    · cases e
theorem pack_some {l : List Int} : ∀ {F : List (List Int)} {seen s : List Int}, packW l F seen = some s → s = seen ++ F.flatten ∧ ∀ b ∈ F, b ≠ [] ∧ (b.map (sz l)).sum ≤ 20
  | [], seen, s, e => by
    simp only [packW, Option.some.injEq] at e
    exact ⟨by rw [← e]; simp, fun b hb => by simp at hb⟩
  | b :: F, seen, s, e => by
    simp only [packW] at e
    split at e
    · cases e
    · rename_i s1 h1 eb
      split at e
      · rename_i hc
        obtain ⟨e1, e2⟩ := box_some eb
        obtain ⟨e3, e4⟩ := pack_some e
        simp only [Bool.and_eq_true, Bool.not_eq_true', decide_eq_true_eq] at hc
        refine ⟨by rw [e3, e1]; simp, fun b' hb' => ?_⟩
        rcases List.mem_cons.1 hb' with rfl | hb'
        · exact ⟨fun h0 => by rw [h0] at hc; simp at hc, by omega⟩
        · exact e4 b' hb'
      · cases e
theorem box_ok {l : List Int} : ∀ {b seen s : List Int} {h h' : Int}, Ok l seen → boxW l b seen h = some (s, h') → Ok l s
  | [], seen, s, h, h', ho, e => by
    simp only [boxW, Option.some.injEq, Prod.mk.injEq] at e
    rw [← e.1]; exact ho
  | k :: b, seen, s, h, h', ho, e => by
    simp only [boxW] at e
    split at e
    · rename_i hc
      simp only [Bool.and_eq_true, Bool.not_eq_true'] at hc
      exact box_ok (ho.add hc.1 hc.2) e
    · cases e
theorem pack_ok {l : List Int} : ∀ {F : List (List Int)} {seen s : List Int}, Ok l seen → packW l F seen = some s → Ok l s
  | [], seen, s, ho, e => by
    simp only [packW, Option.some.injEq] at e
    rw [← e]; exact ho
  | b :: F, seen, s, ho, e => by
    simp only [packW] at e
    split at e
    · cases e
    · rename_i s1 h1 eb
      split at e
      · exact pack_ok (box_ok ho eb) e
      · cases e
theorem packB_yes {l : List Int} {F : List (List Int)} (h : packB l F = true) : Ok l F.flatten ∧ F.flatten.length = l.length ∧ ∀ b ∈ F, b ≠ [] ∧ (b.map (sz l)).sum ≤ 20 := by
  unfold packB at h
  split at h
  · cases h
  · rename_i s e
    obtain ⟨e1, e2⟩ := pack_some e
    have h1 := pack_ok (Ok.nil l) e
    rw [List.nil_append] at e1
    subst e1
    exact ⟨h1, by simpa using h, e2⟩
theorem Ok.all {l s : List Int} (h : Ok l s) (hl : s.length = l.length) {k : Nat} (hk : k < l.length) : (k : Int) ∈ s := by
  by_cases hm : (k : Int) ∈ s
  · exact hm
  · have := int_few l.length ((k : Int) :: s) (List.nodup_cons.2 ⟨hm, h.1⟩) (fun x hx => by
      rcases List.mem_cons.1 hx with rfl | hx
      · omega
      · exact h.2 x hx)
    simp at this; omega
theorem Ok.perm {l s : List Int} (h : Ok l s) (hl : s.length = l.length) : s.Perm ((List.range l.length).map fun (i : Nat) => (i : Int)) := by
  have hn : ((List.range l.length).map fun (i : Nat) => (i : Int)).Nodup := by
    rw [List.nodup_iff_pairwise_ne, List.pairwise_map]
    exact (List.nodup_iff_pairwise_ne.1 List.nodup_range).imp fun hne e => hne (by omega)
  refine (List.perm_ext_iff_of_nodup h.1 hn).2 fun x => ⟨fun hx => ?_, fun hx => ?_⟩
  · have := h.2 x hx
    exact List.mem_map.2 ⟨x.toNat, List.mem_range.2 (by omega), by omega⟩
  · obtain ⟨k, hk, rfl⟩ := List.mem_map.1 hx
    exact h.all hl (List.mem_range.1 hk)
theorem Ok.sizes {l s : List Int} (h : Ok l s) (hl : s.length = l.length) : (s.map (sz l)).Perm l := by
  refine ((h.perm hl).map (sz l)).trans (List.Perm.of_eq ?_)
  apply List.ext_getElem
  · simp
  · intro j h1 h2; simp at h1; simp [sz, h1]
/-- What lies where. -/
def zs (l : List Int) : List (List Int) → Nat → List (Int × Nat)
  | [], _ => []
  | b :: F, o => (b.map fun k => (sz l k, o)) ++ zs l F (o + 1)
theorem zs_fst (l : List Int) : ∀ (F : List (List Int)) (o : Nat), (zs l F o).map Prod.fst = F.flatten.map (sz l)
  | [], _ => rfl
  | b :: F, o => by simp [zs, zs_fst l F (o + 1), Function.comp_def]
theorem zs_in (l : List Int) : ∀ (F : List (List Int)) (o : Nat), ∀ z ∈ zs l F o, o ≤ z.2 ∧ z.2 < o + F.length
  | [], _, z, hz => by simp [zs] at hz
  | b :: F, o, z, hz => by
    rcases List.mem_append.1 hz with hz | hz
    · obtain ⟨k, _, rfl⟩ := List.mem_map.1 hz
      simp
    · have := zs_in l F (o + 1) z hz
      simp only [List.length_cons]; omega
theorem ld_append : ∀ (A B : List (Int × Nat)) (b : Nat), ld (A ++ B) b = ld A b + ld B b
  | [], B, b => by simp [ld]
  | z :: A, B, b => by simp only [List.cons_append, ld, ld_append A B b]; omega
theorem ld_one (l : List Int) (o : Nat) (t : Nat) : ∀ b : List Int, ld (b.map fun k => (sz l k, o)) t = if t = o then (b.map (sz l)).sum else 0
  | [] => by simp [ld]
  | k :: b => by
    simp only [List.map_cons, ld, ld_one l o t b, List.sum_cons]
    by_cases e : t = o
    · rw [if_pos e, if_pos e, if_pos e.symm]
    · rw [if_neg e, if_neg e, if_neg (Ne.symm e)]; rfl
theorem ld_far {Z : List (Int × Nat)} {b : Nat} (h : ∀ z ∈ Z, z.2 ≠ b) : ld Z b = 0 := by
  induction Z with
  | nil => rfl
  | cons z Z ih => simp only [ld]; rw [if_neg (h z (by simp)), ih (fun y hy => h y (by simp [hy]))]; rfl
theorem zs_ld (l : List Int) : ∀ (F : List (List Int)) (o : Nat), (∀ b ∈ F, (b.map (sz l)).sum ≤ 20) → ∀ t, ld (zs l F o) t ≤ 20
  | [], _, _, t => by simp [zs, ld]
  | b :: F, o, h, t => by
    have ih := zs_ld l F (o + 1) (fun b' hb' => h b' (by simp [hb'])) t
    have h1 := h b (by simp)
    simp only [zs]
    rw [ld_append, ld_one]
    by_cases e : t = o
    · rw [if_pos e, ld_far (fun z hz => by have := zs_in l F (o + 1) z hz; omega)]; omega
    · rw [if_neg e]; omega
/-- A packing is a fit. -/
theorem pack_fit {l : List Int} {F : List (List Int)} (h : packB l F = true) : Fit l (twenty F.length) := by
  obtain ⟨h1, h2, h3⟩ := packB_yes h
  refine ⟨zs l F 0, by rw [zs_fst]; exact h1.sizes h2, fun z hz => ?_, fun b hb => ?_⟩
  · have := zs_in l F 0 z hz
    rw [twenty_len]; omega
  · rw [twenty_len] at hb
    rw [twenty_at hb]
    exact zs_ld l F 0 (fun b' hb' => (h3 b' hb').2) b
/-- No packing has fewer than the fewest; what is left is not below 0. -/
theorem pack_few {l : List Int} {F : List (List Int)} (hg : goodB l = true) (h : packB l F = true) : fewN l ≤ F.length ∧ 0 ≤ 20 * (F.length : Int) - l.sum := by
  have hf := pack_fit h
  have := (few_is (good_all20 hg)).2 _ hf
  have := fit_sum hf
  exact ⟨by omega, by omega⟩
/-- And back: from what is in boxes. -/
theorem box_of {l : List Int} : ∀ {b seen : List Int} {h : Int}, Ok l (seen ++ b) → boxW l b seen h = some (seen ++ b, h + (b.map (sz l)).sum)
  | [], seen, h, _ => by simp [boxW]
  | k :: b, seen, h, ho => by
    have ho' : Ok l ((seen ++ [k]) ++ b) := by simpa using ho
    have hk := ho.2 k (by simp)
    have hnd := ho.1
    rw [List.nodup_append] at hnd
    have hc : seen.contains k = false := by
      cases e : seen.contains k
      · rfl
      · exact absurd rfl (hnd.2.2 k (by simpa using e) k (by simp))
    have hin : Pf.inB k 0 ((l.length : Int) - 1) = true := Pf.inB_of hk.1 (by omega)
    rw [boxW, hin, hc]
    simp only [Bool.not_false, Bool.and_self, if_true]
    rw [box_of ho']
    simp [sz, List.sum_cons]; omega
theorem pack_of {l : List Int} : ∀ {F : List (List Int)} {seen : List Int}, Ok l (seen ++ F.flatten) → (∀ b ∈ F, b ≠ [] ∧ (b.map (sz l)).sum ≤ 20) → packW l F seen = some (seen ++ F.flatten)
  | [], seen, _, _ => by simp [packW]
  | b :: F, seen, ho, hb => by
    have ho' : Ok l ((seen ++ b) ++ F.flatten) := by simpa using ho
    have hob : Ok l (seen ++ b) := ⟨(List.nodup_append.1 ho'.1).1, fun x hx => ho'.2 x (List.mem_append.2 (Or.inl hx))⟩
    obtain ⟨h1, h2⟩ := hb b (by simp)
    have he : b.isEmpty = false := by cases b with
      | nil => exact absurd rfl h1
      | cons _ _ => rfl
    rw [packW, box_of hob]
    simp only [he, Bool.not_false, Bool.true_and]
    rw [if_pos (by simpa using h2), pack_of ho' (fun b' hb' => hb b' (by simp [hb']))]
    simp
theorem packB_of {l : List Int} {F : List (List Int)} (ho : Ok l F.flatten) (hl : F.flatten.length = l.length) (hb : ∀ b ∈ F, b ≠ [] ∧ (b.map (sz l)).sum ≤ 20) : packB l F = true := by
  unfold packB
  rw [pack_of (seen := []) (by simpa using ho) hb]
  simpa using hl
end Go.Proofs.Ytnchkgblpnompaa.It
namespace Go.Proofs.Ytnchkgblpnompaa.It

def xOf (xs : List (Int × Int)) (i : Nat) : Int := (xs.getD i (0, 0)).2
def qOf (xs : List (Int × Int)) (i : Nat) : Nat := atI (fillTo xs i) (xOf xs i)
theorem place_yes {B : List (List (Int × Int))} {x : Int × Int} (h : atI B x.2 < B.length) : (place B x).length = B.length ∧ ∀ b, b < B.length → rm ((place B x).getD b []) = rm (B.getD b []) - if atI B x.2 = b then x.2 else 0 := by
  have e : place B x = B.set (atI B x.2) (B.getD (atI B x.2) [] ++ [x]) := by unfold place ext; rw [if_pos h]
  rw [e]
  refine ⟨by simp, fun b hb => ?_⟩
  by_cases e1 : atI B x.2 = b
  · subst e1
    rw [if_pos rfl, List.getD_eq_getElem?_getD, List.getElem?_set_self h]
    exact rm_snoc _ _
  · rw [if_neg e1, List.getD_eq_getElem?_getD, List.getElem?_set_ne e1, ← List.getD_eq_getElem?_getD]; omega
theorem place_no {B : List (List (Int × Int))} {x : Int × Int} (h : ¬ atI B x.2 < B.length) : (place B x).length = B.length + 1 ∧ (∀ b, b < B.length → rm ((place B x).getD b []) = rm (B.getD b [])) ∧ rm ((place B x).getD B.length []) = 20 - x.2 := by
  have h1 : atI B x.2 = B.length := by have := at_le B x.2; omega
  have e : place B x = B ++ [[x]] := by
    unfold place ext
    rw [if_neg h, h1]
    have : (B ++ [[]]).getD B.length [] = ([] : List (Int × Int)) := by simp
    rw [this]
    rw [List.set_append_right _ _ (Nat.le_refl _), Nat.sub_self]; rfl
  rw [e]
  refine ⟨by simp, fun b hb => by simp [List.getElem?_append_left hb], ?_⟩
  have : (B ++ [[x]]).getD B.length [] = [x] := by simp
  rw [this]
  simp [rm]
/-- What boxes hold, by numbers. -/
structure Lk (xs : List (Int × Int)) (k : Nat) : Prop where
  lev : ∀ b, b < (fillTo xs k).length → rm ((fillTo xs k).getD b []) = 20 - Bx.lev (qOf xs) (xOf xs) k b
  lt : ∀ i, i < k → qOf xs i < (fillTo xs k).length
  all : ∀ b, b < (fillTo xs k).length → ∃ i, i < k ∧ qOf xs i = b
theorem lk_all (xs : List (Int × Int)) : ∀ k, k ≤ xs.length → Lk xs k
  | 0, _ => ⟨fun b hb => absurd hb (Nat.not_lt_zero _), fun i hi => absurd hi (Nat.not_lt_zero _), fun b hb => absurd hb (Nat.not_lt_zero _)⟩
  | k + 1, hk => by
    have ih := lk_all xs k (by omega)
    have es := fillTo_succ (xs := xs) (k := k) (by omega)
    have eq : qOf xs k = atI (fillTo xs k) (xs.getD k (0, 0)).2 := rfl
    by_cases h : atI (fillTo xs k) (xs.getD k (0, 0)).2 < (fillTo xs k).length
    · obtain ⟨p1, p2⟩ := place_yes h
      refine ⟨fun b hb => ?_, fun i hi => ?_, fun b hb => ?_⟩
      · rw [es, p1] at hb
        rw [es, p2 b hb, ih.lev b hb, Bx.lev_succ, eq]
        show 20 - _ - (if _ then (xs.getD k (0, 0)).2 else 0) = 20 - (_ + if _ then xOf xs k else 0)
        unfold xOf
        split <;> omega
      · rw [es, p1]
        by_cases e : i = k
        · subst e; rw [eq]; exact h
        · exact ih.lt i (by omega)
      · rw [es, p1] at hb
        obtain ⟨i, hi, e⟩ := ih.all b hb
        exact ⟨i, by omega, e⟩
    · obtain ⟨p1, p2, p3⟩ := place_no h
      have h1 : qOf xs k = (fillTo xs k).length := by have := at_le (fillTo xs k) (xs.getD k (0, 0)).2; omega
      refine ⟨fun b hb => ?_, fun i hi => ?_, fun b hb => ?_⟩
      · rw [es, p1] at hb
        rw [Bx.lev_succ]
        by_cases e : b = (fillTo xs k).length
        · subst e
          rw [es, p3, if_pos h1, Bx.lev_none (fun i hi => by have := ih.lt i hi; omega)]
          unfold xOf; omega
        · rw [es, p2 b (by omega), ih.lev b (by omega), if_neg (by omega)]; omega
      · rw [es, p1]
        by_cases e : i = k
        · subst e; omega
        · have := ih.lt i (by omega); omega
      · rw [es, p1] at hb
        by_cases e : b = (fillTo xs k).length
        · exact ⟨k, by omega, by omega⟩
        · obtain ⟨i, hi, e2⟩ := ih.all b (by omega)
          exact ⟨i, by omega, e2⟩
theorem at_before {B : List (List (Int × Int))} {s : Int} {b : Nat} (h : b < atI B s) : ¬ s ≤ rm (B.getD b []) := by
  have hl : b < B.length := Nat.lt_of_lt_of_le h (at_le B s)
  have := List.not_of_lt_findIdx h
  rw [List.getD_eq_getElem?_getD, List.getElem?_eq_getElem hl]
  simpa using this
theorem fill_ff {xs : List (Int × Int)} (hx : ∀ x ∈ xs, 1 ≤ x.2 ∧ x.2 ≤ 20) : Bx.FF (xOf xs) xs.length (qOf xs) ∧ Bx.It (xOf xs) xs.length ∧ Bx.Many (qOf xs) xs.length (fill xs).length := by
  have hxo : ∀ i, i < xs.length → 1 ≤ xOf xs i ∧ xOf xs i ≤ 20 := fun i hi => hx _ (by simp [hi])
  have hl := lk_all xs xs.length (Nat.le_refl _)
  refine ⟨⟨fun i hi b hb => ?_, fun i hi => ?_⟩, ⟨fun i hi => (hxo i hi).1, fun i hi => (hxo i hi).2⟩, ⟨fun i hi => ?_, fun b hb => ?_⟩⟩
  · have h1 := at_before (B := fillTo xs i) (s := xOf xs i) hb
    rw [(lk_all xs i (by omega)).lev b (Nat.lt_of_lt_of_le hb (at_le _ _))] at h1
    omega
  · have hk := lk_all xs i (by omega)
    by_cases e : qOf xs i < (fillTo xs i).length
    · have h1 := fi_room (s := xOf xs i) (fi_all hx i (by omega)) (hxo i hi).2
      have e' : atI (fillTo xs i) (xOf xs i) < (fillTo xs i).length := e
      unfold ext at h1
      rw [if_pos e'] at h1
      rw [hk.lev _ e'] at h1
      have : qOf xs i = atI (fillTo xs i) (xOf xs i) := rfl
      rw [this]; omega
    · rw [Bx.lev_none (fun j hj => by have := hk.lt j hj; omega)]
      have := (hxo i hi).2; omega
  · have := hl.lt i hi
    rwa [fillTo_all xs (Nat.le_refl _)] at this
  · exact hl.all b (by rw [fillTo_all xs (Nat.le_refl _)]; exact hb)
theorem sumTo_take (xs : List (Int × Int)) : ∀ k, k ≤ xs.length → Bx.sumTo (xOf xs) k = ((xs.take k).map Prod.snd).sum
  | 0, _ => by simp [Bx.sumTo]
  | k + 1, hk => by
    rw [List.take_add_one, List.map_append, List.sum_append, ← sumTo_take xs k (by omega)]
    simp [Bx.sumTo, xOf, show k < xs.length by omega]
theorem lift_perm {Z : List (Int × Nat)} {S : List Int} (h : (Z.map Prod.fst).Perm S) : ∃ Z' : List (Int × Nat), Z'.Perm Z ∧ Z'.map Prod.fst = S := by
  generalize hA : Z.map Prod.fst = A at h
  induction h generalizing Z with
  | nil => exact ⟨Z, List.Perm.refl _, by simpa using hA⟩
  | cons x _ ih =>
    cases Z with
    | nil => simp at hA
    | cons z Z =>
      simp only [List.map_cons, List.cons.injEq] at hA
      obtain ⟨Z', p, e⟩ := ih hA.2
      exact ⟨z :: Z', p.cons z, by simp [hA.1, e]⟩
  | swap x y l =>
    cases Z with
    | nil => simp at hA
    | cons z Z =>
      cases Z with
      | nil => simp at hA
      | cons z2 Z =>
        simp only [List.map_cons, List.cons.injEq] at hA
        exact ⟨z2 :: z :: Z, List.Perm.swap z z2 Z, by simp [hA.1, hA.2.1, hA.2.2]⟩
  | trans _ _ ih1 ih2 =>
    obtain ⟨Z1, p1, e1⟩ := ih1 hA
    obtain ⟨Z2, p2, e2⟩ := ih2 e1
    exact ⟨Z2, p2.trans p1, e2⟩
theorem ld_take (xs : List (Int × Int)) {Z : List (Int × Nat)} (he : Z.map Prod.fst = xs.map Prod.snd) (b : Nat) : ∀ k, k ≤ xs.length → ld (Z.take k) b = Bx.lev (fun i => (Z.getD i (0, 0)).2) (xOf xs) k b
  | 0, _ => by simp [ld, Bx.lev, Bx.sumTo]
  | k + 1, hk => by
    have hl : Z.length = xs.length := by have := congrArg List.length he; simpa using this
    have hk' : k < Z.length := by omega
    have h1 : (Z.getD k (0, 0)).1 = xOf xs k := by
      have := congrArg (fun l : List Int => l.getD k 0) he
      simpa [hk', show k < xs.length by omega, xOf] using this
    have ht : Z.take (k + 1) = Z.take k ++ [Z.getD k (0, 0)] := by rw [List.take_add_one]; simp [hk']
    rw [ht, ld_append, ld_take xs he b k (by omega), Bx.lev_succ]
    simp only [ld, h1, Int.add_zero]
theorem fit_pk {xs : List (Int × Int)} {n : Nat} (h : Fit (xs.map Prod.snd) (twenty n)) : ∃ p, Bx.Pk (xOf xs) xs.length n p := by
  obtain ⟨Z, h1, h2, h3⟩ := h
  obtain ⟨Z', hp, he⟩ := lift_perm h1
  have hl : Z'.length = xs.length := by have := congrArg List.length he; simpa using this
  rw [twenty_len] at h2 h3
  refine ⟨fun i => (Z'.getD i (0, 0)).2, ⟨fun i hi => h2 _ (hp.subset (by simp [show i < Z'.length by omega])), fun b hb => ?_⟩⟩
  rw [← ld_take xs he b xs.length (Nat.le_refl _), List.take_of_length_le (by omega), ld_perm hp b]
  have := h3 b hb
  rwa [twenty_at hb] at this
end Go.Proofs.Ytnchkgblpnompaa.It
namespace Go.Proofs.Ytnchkgblpnompaa
open Go.RowKit

theorem g_own {w w' : World} {base e s n : Nat} {v : Value} {xs : List Value} (h : w.ownsRow base e s v n xs) (hb : Below w.heap.size w w') : w'.ownsRow base e s v n xs := by
  refine ⟨h.1, ?_⟩
  rcases h.2 with h0 | ⟨g, cap, cur, hv, hbg, hg, r⟩
  · exact Or.inl h0
  · exact Or.inr ⟨g, cap, cur, hv, hbg, (hb.block g (Array.getElem?_eq_some_iff.1 hg).1).trans hg, r⟩
/-- Nothing is turned but blocks from lo on and below hi. -/
def Rng (lo hi : Nat) (w w' : World) : Prop := w'.os = w.os ∧ w'.tape = w.tape ∧ w'.output = w.output ∧ w.heap.size ≤ w'.heap.size ∧ ∀ b, b < w.heap.size → (b < lo ∨ hi ≤ b) → w'.heap[b]? = w.heap[b]?
theorem Rng.refl (lo hi : Nat) (w : World) : Rng lo hi w w := ⟨rfl, rfl, rfl, Nat.le_refl _, fun _ _ _ => rfl⟩
theorem Rng.below {lo hi k : Nat} {w w' : World} (h : Rng lo hi w w') (hk : k ≤ lo) (hs : k ≤ w.heap.size) : Below k w w' := ⟨h.1, h.2.1, h.2.2.1, h.2.2.2.1, fun b hb => h.2.2.2.2 b (by omega) (Or.inl (by omega))⟩
theorem Rng.grown {lo hi g : Nat} {w w1 w2 : World} (h : Rng lo hi w w1) (hg : w1.grownBy w2 (some g)) (h1 : lo ≤ g) (h2 : g < hi) : Rng lo hi w w2 :=
  ⟨hg.os.trans h.1, hg.tape.trans h.2.1, hg.output.trans h.2.2.1, Nat.le_trans h.2.2.2.1 hg.size, fun b hb hh => (hg.block b (Nat.lt_of_lt_of_le hb h.2.2.2.1) (by simp; omega)).trans (h.2.2.2.2 b hb hh)⟩
theorem two_call8 {w w1 w2 : World} {b c o p : Nat} {v0 v1 : Value} (hb : b < w.heap.size) (hc : c < w.heap.size)
    (s : w1.cell? ⟨b, o, none⟩ = some v0 ∧ w1.cell? ⟨c, p, none⟩ = some v1 ∧ Below w.heap.size w w1 ∧ w.heap.size ≤ w1.heap.size) (hb2 : Below w1.heap.size w1 w2) :
    w2.cell? ⟨b, o, none⟩ = some v0 ∧ w2.cell? ⟨c, p, none⟩ = some v1 ∧ Below w.heap.size w w2 ∧ w.heap.size ≤ w2.heap.size := by
  obtain ⟨s0, s1, s4, s5⟩ := s
  exact ⟨(hb2.cell (p := ⟨b, o, none⟩) (Nat.lt_of_lt_of_le hb s5)).trans s0, (hb2.cell (p := ⟨c, p, none⟩) (Nat.lt_of_lt_of_le hc s5)).trans s1, s4.trans (hb2.mono s5), Nat.le_trans s5 hb2.size⟩
theorem lt_of_pw8 {gs : List Nat} (h : gs.Pairwise (· < ·)) {i t : Nat} (hi : i < t) (ht : t < gs.length) : gs.getD i 0 < gs.getD t 0 := by
  rw [Pf.getD_lt _ _ (show i < gs.length by omega), Pf.getD_lt _ _ ht]
  exact List.pairwise_iff_getElem.1 h i t (by omega) ht hi
end Go.Proofs.Ytnchkgblpnompaa
namespace Go.Proofs.Ytnchkgblpnompaa
open Go.RowKit

theorem mem9 {α : Type} (l : List α) (d : α) {i : Nat} (h : i < l.length) : l.getD i d ∈ l := by rw [List.getD_eq_getElem?_getD, List.getElem?_eq_getElem h]; exact List.getElem_mem h
theorem add_plain9 (b o j : Nat) : (⟨b, o, none⟩ : Addr).add j = ⟨b, o + j, none⟩ := by unfold Addr.add; split <;> simp_all
/-- One value more behind an owned list, and where it lies then. -/
theorem push_9 {w : World} {base n e t bytes : Nat} {z x v : Value} {xs : List Value} (hu : Try.prog.underlying t = some (.slice e)) (hinf : ∃ i, Try.prog.info? e = some i ∧ i.zero = some z ∧ i.size = 1 ∧ i.bytes = bytes) (hz : z.cells.size = 1) (hx : x.oneCell' = true) (h24 : bytes ≤ 24) (hown : w.ownsRow base e 1 v n xs) (hn : n ≤ 100000) (hb : base ≤ w.heap.size) :
    ∃ g cap w', (∀ ty, (Builtin.append_ #[t, t] ty #[v, .slice (some ⟨w.heap.size, 0, none⟩) 1 1]).run Try.prog (w.alloc (.cells #[x] e)) = .ok (.slice (some ⟨g, 0, none⟩) (n + 1) cap) w') ∧ w'.ownsRow base e 1 (.slice (some ⟨g, 0, none⟩) (n + 1) cap) (n + 1) (xs ++ [x]) ∧ (w.alloc (.cells #[x] e)).grownBy w' v.ownBlock ∧ (v.ownBlock = some g ∨ g = w.heap.size + 1) := by
  obtain ⟨i0, hi, hz0, hz1, hz2⟩ := hinf
  have hby : (n + 1) * bytes ≤ 100001 * 24 := Nat.mul_le_mul (by omega) h24
  obtain ⟨g, cap, w', h1, h2, h3, h4, _⟩ := run_append_lies (P := Try.prog) (w := w.alloc (.cells #[x] e)) t 0 base e i0 _ 1 bytes hu hi hz0 hz1 hz2 hz (by decide) v n xs (hown.alloc _) ⟨w.heap.size, 0, none⟩ 1 1 [x] rfl (fun j u hj => by
      have hj2 : j = 0 := by
        have := (List.getElem?_eq_some_iff.1 hj).1
        simp at this; omega
      subst hj2
      rw [add_plain9]
      simp at hj; subst hj; simp) (fun u hu => by simp at hu; subst hu; exact hx) (by omega) (by unfold maxLen; omega) (by omega) (by simp; omega) _ rfl
  refine ⟨g, cap, w', fun _ => h1, h2, h3, ?_⟩
  rcases h4 with h4 | h4
  · exact Or.inl h4
  · exact Or.inr (by rw [h4]; simp)
theorem step_append_run9 {P : Program} {w : World} {ops : Array Oper} {o : Oper} {a : Act} {K : Act → World → Prop} {Q : Exit → Act → World → Prop} {E : Prop} (hgd : o.guard = none) (d s : Operand) (t t' : TypeId)
    (ho : o.op = .call { callee := .builtin .append, args := #[d, s], argTypes := #[t, t'] }) (vd vs : Value) (hd : a.eval d = vd) (hs : a.eval s = vs)
    (v' : Value) (w' : World) (hr : (Builtin.append_ #[t, t'] o.type #[vd, vs]).run P w = .ok v' w') (h : K (a.put o.dst v') w') :
    if Region.wanted o (yielded ops a.tmps) = true then Oper.wp P o a w K Q else E := by
  have hw : Region.wanted o (yielded ops a.tmps) = true := by simp [Region.wanted, hgd]
  rw [if_pos hw]
  unfold Oper.wp execOp
  simp only [ho, resolve, invoke, builtin, Sem.run_bind, Sem.run_pure, Result.andThen_ok, List.map_toArray, List.map_cons, List.map_nil, hd, hs, hr]
  exact h
end Go.Proofs.Ytnchkgblpnompaa
namespace Go.Proofs.Ytnchkgblpnompaa
open Go.RowKit

/-- Fits, to be read: a list of lists. -/
def CRow (w : World) (a : Option Addr) (F : List (List Int)) : Prop :=
  F = [] ∨ ∃ b off, a = some ⟨b, off, none⟩ ∧ b < w.heap.size ∧ ∀ i, i < F.length → ∃ ai ci, w.cell? ⟨b, off + i, none⟩ = some (.slice ai (F.getD i []).length ci) ∧ ARow w ai (F.getD i [])
theorem CRow.below {w w' : World} {a : Option Addr} {F : List (List Int)} (h : CRow w a F) (hb : Below w.heap.size w w') : CRow w' a F := by
  rcases h with h | ⟨b, off, ha, hl, hc⟩
  · exact Or.inl h
  · refine Or.inr ⟨b, off, ha, Nat.lt_of_lt_of_le hl hb.size, fun i hi => ?_⟩
    obtain ⟨ai, ci, h1, h2⟩ := hc i hi
    exact ⟨ai, ci, (hb.cell (p := ⟨b, off + i, none⟩) hl).trans h1, h2.below hb⟩
theorem CRow.at {w : World} {a : Option Addr} {F : List (List Int)} (h : CRow w a F) {i : Nat} (hi : i < F.length) : ∃ b off ai ci, a = some ⟨b, off, none⟩ ∧ b < w.heap.size ∧ w.cell? ⟨b, off + i, none⟩ = some (.slice ai (F.getD i []).length ci) ∧ ARow w ai (F.getD i []) := by
  rcases h with h | ⟨b, off, ha, hl, hc⟩
  · rw [h] at hi; simp at hi
  · obtain ⟨ai, ci, h1, h2⟩ := hc i hi
    exact ⟨b, off, ai, ci, ha, hl, h1, h2⟩
def CFits (F : List (List Int)) : Prop := ∀ i, (F.getD i []).length ≤ maxLen
def cv (gs : List Nat) (F : List (List Int)) (i : Nat) : Value := .slice (some ⟨gs.getD i 0, 0, none⟩) (F.getD i []).length (F.getD i []).length
def cvals (gs : List Nat) (F : List (List Int)) (k m : Nat) : List Value := (List.range m).map fun i => if i < k then cv gs F i else .slice none 0 0
/-- The first k of m rows, each in a block of its own, all of them owned. -/
def CSo (w : World) (base B : Nat) (gs : List Nat) (F : List (List Int)) (k m : Nat) : Prop :=
  gs.length = k ∧ w.ownsRow base 23 1 (.slice (some ⟨B, 0, none⟩) m m) m (cvals gs F k m) ∧ (∀ i, i < k → w.ownsRow base 3 1 (cv gs F i) (F.getD i []).length (ints (F.getD i []))) ∧ gs.Pairwise (· < ·) ∧ ∀ g ∈ gs, B < g
theorem CSo.below {w w' : World} {base B k m : Nat} {gs : List Nat} {F : List (List Int)} (h : CSo w base B gs F k m) (hb : Below w.heap.size w w') : CSo w' base B gs F k m :=
  ⟨h.1, g_own h.2.1 hb, fun i hi => g_own (h.2.2.1 i hi) hb, h.2.2.2⟩
theorem CSo.at_mem {w : World} {base B k m : Nat} {gs : List Nat} {F : List (List Int)} (h : CSo w base B gs F k m) {i : Nat} (hi : i < k) : gs.getD i 0 ∈ gs := by
  have hi' : i < gs.length := by rw [h.1]; exact hi
  rw [Pf.getD_lt _ _ hi']; exact List.getElem_mem _
theorem CSo.lt {w : World} {base B k m : Nat} {gs : List Nat} {F : List (List Int)} (h : CSo w base B gs F k m) {g : Nat} (hg : g ∈ gs) : base ≤ g ∧ g < w.heap.size := by
  obtain ⟨i, hi, rfl⟩ := List.getElem_of_mem hg
  have := h.2.2.1 i (by rw [← h.1]; exact hi)
  have := this.lt (gs.getD i 0) rfl
  rwa [Pf.getD_lt _ _ hi] at this
theorem cvals_snoc {gs : List Nat} {F : List (List Int)} {k m g n : Nat} (hk : gs.length = k) (hn : (F.getD k []).length = n) : (cvals gs F k m).set k (.slice (some ⟨g, 0, none⟩) n n) = cvals (gs ++ [g]) F (k + 1) m := by
  apply List.ext_getElem
  · simp [cvals]
  · intro i h1 h2
    simp only [cvals, List.length_map, List.length_range] at h2
    rw [List.getElem_set]
    by_cases e : k = i
    · subst e
      simp [cvals, cv, ← hn, ← hk]
    · simp only [e, if_false, cvals, List.getElem_map, List.getElem_range]
      by_cases hi : i < k
      · simp [hi, show i < k + 1 by omega, cv, hk]
      · simp [hi, show ¬ i < k + 1 by omega]
theorem CSo.step {w w2 : World} {base B k m g n : Nat} {gs : List Nat} {F : List (List Int)} (h : CSo w base B gs F k m) (hb : Below w.heap.size w w2) (hbase : base ≤ w.heap.size)
    (own : w2.ownsRow w.heap.size 3 1 (.slice (some ⟨g, 0, none⟩) n n) n (ints (F.getD k []))) (hn : (F.getD k []).length = n) :
    CSo (w2.setCell ⟨B, k, none⟩ (.slice (some ⟨g, 0, none⟩) n n)) base B (gs ++ [g]) F (k + 1) m := by
  obtain ⟨hB0, hB1⟩ := h.2.1.lt B rfl
  obtain ⟨hg0, hg1⟩ := own.lt g rfl
  obtain ⟨st1, st2⟩ := (g_own h.2.1 hb).stored k (.slice (some ⟨g, 0, none⟩) n n)
  rw [cvals_snoc h.1 hn] at st1
  refine ⟨by simp [h.1], st1, fun i hi => ?_, ?_, ?_⟩
  · by_cases e : i = k
    · subst e
      have e1 : cv (gs ++ [g]) F i = .slice (some ⟨g, 0, none⟩) n n := by simp [cv, ← h.1, ← hn]
      rw [e1, hn]
      exact (owns_low own hbase).kept st2 (Or.inr (by simp [Value.ownBlock]; omega))
    · have hi' : i < k := by omega
      have e1 : cv (gs ++ [g]) F i = cv gs F i := by simp [cv, List.getElem?_append, h.1, hi']
      rw [e1]
      have hm := h.2.2.2.2 _ (h.at_mem hi')
      exact (g_own (h.2.2.1 i hi') hb).kept st2 (Or.inr (by simp only [cv, Value.ownBlock, ne_eq, Option.some.injEq]; omega))
  · rw [List.pairwise_append]
    refine ⟨h.2.2.2.1, by simp, fun a ha b hb' => ?_⟩
    simp at hb'
    have := (h.lt ha).2
    omega
  · intro x hx
    rcases List.mem_append.1 hx with hx | hx
    · exact h.2.2.2.2 x hx
    · simp at hx; omega
/-- Fits of one's own, all of them below hi. -/
def COw (w : World) (B hi : Nat) (F : List (List Int)) : Prop := hi ≤ w.heap.size ∧ B < hi ∧ ∃ gs, (∀ g ∈ gs, g < hi) ∧ CSo w B B gs F F.length F.length
theorem COw.below {w w' : World} {B hi : Nat} {F : List (List Int)} (h : COw w B hi F) (hb : Below w.heap.size w w') : COw w' B hi F := by
  obtain ⟨h1, h2, gs, h3, h4⟩ := h
  exact ⟨Nat.le_trans h1 hb.size, h2, gs, h3, h4.below hb⟩
theorem COw.row {w : World} {B hi : Nat} {F : List (List Int)} (h : COw w B hi F) : CRow w (some ⟨B, 0, none⟩) F := by
  obtain ⟨h1, h2, gs, h3, h⟩ := h
  refine Or.inr ⟨B, 0, rfl, (h.2.1.lt B rfl).2, fun i hi => ⟨_, (F.getD i []).length, ?_, arow_owns rfl (h.2.2.1 i hi)⟩⟩
  rw [Nat.zero_add, h.2.1.cellAt i (by omega)]
  simp [cvals, hi, cv]
end Go.Proofs.Ytnchkgblpnompaa
namespace Go.Proofs.Ytnchkgblpnompaa
open Go.RowKit

def nilS : Value := .slice none 0 0
def LL {α : Type} (W : World) (base T E s : Nat) (enc : List α → List Value) (v : Value) (us : List Value) (R : List (List α)) : Prop :=
  W.ownsRow base T 1 v R.length us ∧ (∀ i, i < R.length → W.ownsRow base E s (us.getD i nilS) (R.getD i []).length (enc (R.getD i []))) ∧
  (∀ i g, i < R.length → (us.getD i nilS).ownBlock = some g → v.ownBlock ≠ some g) ∧
  (∀ i j g, i < R.length → j < R.length → i ≠ j → (us.getD i nilS).ownBlock = some g → (us.getD j nilS).ownBlock ≠ some g)
theorem LL.len {α : Type} {W : World} {base T E s : Nat} {enc : List α → List Value} {v : Value} {us : List Value} {R : List (List α)} (h : LL W base T E s enc v us R) : us.length = R.length := by
  have := h.1.1; omega
theorem LL.nil {α : Type} (W : World) (base T E s : Nat) (enc : List α → List Value) : LL W base T E s enc nilS [] ([] : List (List α)) :=
  ⟨World.ownsRow_nil _ _ _ _, fun _ hi => absurd hi (Nat.not_lt_zero _), fun _ _ hi => absurd hi (Nat.not_lt_zero _), fun _ _ _ hi => absurd hi (Nat.not_lt_zero _)⟩
theorem LL.keep {α : Type} {W W' : World} {base T E s : Nat} {enc : List α → List Value} {v : Value} {us : List Value} {R : List (List α)} (h : LL W base T E s enc v us R) (hb : ∀ g, base ≤ g → g < W.heap.size → W'.heap[g]? = W.heap[g]?) : LL W' base T E s enc v us R :=
  ⟨own_keep2 h.1 fun g hv hl => hb g (h.1.lt g hv).1 hl, fun i hi => own_keep2 (h.2.1 i hi) fun g hv hl => hb g ((h.2.1 i hi).lt g hv).1 hl, h.2.2⟩
theorem LL.below {α : Type} {W W' : World} {base T E s : Nat} {enc : List α → List Value} {v : Value} {us : List Value} {R : List (List α)} (h : LL W base T E s enc v us R) (hb : Below W.heap.size W W') : LL W' base T E s enc v us R := h.keep fun g _ hl => hb.block g hl
theorem LL.form {α : Type} {W : World} {base T E s : Nat} {enc : List α → List Value} {v : Value} {us : List Value} {R : List (List α)} (h : LL W base T E s enc v us R) : ∃ a c, v = .slice a R.length c := own_form2 h.1
theorem LL.cell {α : Type} {W : World} {base T E s G cap : Nat} {enc : List α → List Value} {us : List Value} {R : List (List α)} (h : LL W base T E s enc (.slice (some ⟨G, 0, none⟩) R.length cap) us R) {i : Nat} (hi : i < R.length) : W.cell? ⟨G, i, none⟩ = some (us.getD i nilS) := by
  have hl := h.len
  rw [h.1.cellAt i (by omega), List.getD_eq_getElem?_getD, List.getElem?_eq_getElem (by omega)]; rfl
theorem getD_set' {α : Type} {l : List α} {i b : Nat} {x d : α} (hi : i < l.length) : (l.set i x).getD b d = if b = i then x else l.getD b d := by
  by_cases e : b = i
  · subst e; simp [hi]
  · rw [if_neg e]; simp [Ne.symm e]
theorem getD_snoc {α : Type} {l : List α} {b : Nat} {x d : α} (hb : b < l.length + 1) : (l ++ [x]).getD b d = if b = l.length then x else l.getD b d := by
  by_cases e : b = l.length
  · subst e; simp
  · rw [if_neg e]; simp [List.getElem?_append_left (show b < l.length by omega)]
/-- A row in place i is another one now. -/
theorem LL.put {α : Type} {W W' : World} {base T E s G cap i : Nat} {enc : List α → List Value} {us : List Value} {R : List (List α)} {u' : Value} {r' : List α} (h : LL W base T E s enc (.slice (some ⟨G, 0, none⟩) R.length cap) us R) (hi : i < R.length)
    (hB : ∀ b, b < W.heap.size → some b ≠ (us.getD i nilS).ownBlock → W'.heap[b]? = W.heap[b]?) (_hs : W.heap.size ≤ W'.heap.size) (hu : W'.ownsRow base E s u' r'.length (enc r')) (hf : ∀ g, u'.ownBlock = some g → (us.getD i nilS).ownBlock = some g ∨ W.heap.size ≤ g) :
    LL (W'.setCell ⟨G, i, none⟩ u') base T E s enc (.slice (some ⟨G, 0, none⟩) R.length cap) (us.set i u') (R.set i r') := by
  have hl := h.len
  have hG : G < W.heap.size := (h.1.lt G rfl).2
  have hGi : ∀ j, j < R.length → (us.getD j nilS).ownBlock ≠ some G := fun j hj e => h.2.2.1 j G hj e rfl
  have hG' : W'.ownsRow base T 1 (.slice (some ⟨G, 0, none⟩) R.length cap) R.length us := own_keep2 h.1 fun g hv hl' => hB g hl' (fun e => by
    obtain rfl : G = g := by simpa [Value.ownBlock] using hv
    exact hGi i hi e.symm)
  have huG : u'.ownBlock ≠ some G := fun e => by
    rcases hf G e with e' | e'
    · exact hGi i hi e'
    · omega
  have far : ∀ g, g ≠ G → (W'.setCell ⟨G, i, none⟩ u').heap[g]? = W'.heap[g]? := fun g hg => Below.heap_setCell W' ⟨G, i, none⟩ u' g hg
  refine ⟨by rw [List.length_set]; exact (hG'.stored i u').1, fun j hj => ?_, fun j g hj he => ?_, fun j k g hj hk hne he => ?_⟩
  · rw [List.length_set] at hj
    rw [getD_set' (by omega), getD_set' hi]
    by_cases e : j = i
    · rw [if_pos e, if_pos e]
      exact own_keep2 hu fun g hv _ => far g (fun e' => huG (e' ▸ hv))
    · rw [if_neg e, if_neg e]
      refine own_keep2 (own_keep2 (h.2.1 j hj) fun g hv hl' => hB g hl' (fun e' => h.2.2.2 j i g hj hi e hv e'.symm)) fun g hv _ => far g (fun e' => hGi j hj (e' ▸ hv))
  · rw [List.length_set] at hj
    rw [getD_set' (by omega)] at he
    intro e2
    obtain rfl : G = g := by simpa [Value.ownBlock] using e2
    by_cases e : j = i
    · rw [if_pos e] at he; exact huG he
    · rw [if_neg e] at he; exact hGi j hj he
  · rw [List.length_set] at hj hk
    rw [getD_set' (by omega)] at he ⊢
    by_cases e1 : j = i
    · subst e1
      rw [if_pos rfl] at he
      rw [if_neg (Ne.symm hne)]
      intro e2
      rcases hf g he with e' | e'
      · exact h.2.2.2 j k g hj hk hne e' e2
      · have := ((h.2.1 k hk).lt g e2).2; omega
    · rw [if_neg e1] at he
      by_cases e2 : k = i
      · subst e2
        rw [if_pos rfl]
        intro e3
        rcases hf g e3 with e' | e'
        · exact h.2.2.2 j k g hj hk hne he e'
        · have := ((h.2.1 j hj).lt g he).2; omega
      · rw [if_neg e2]; exact h.2.2.2 j k g hj hk hne he
/-- One row more. -/
theorem LL.snoc {α : Type} {W W' : World} {base T E s : Nat} {enc : List α → List Value} {v v' : Value} {us : List Value} {R : List (List α)} {u : Value} {r : List α} (h : LL W base T E s enc v us R)
    (hv : W'.ownsRow base T 1 v' (R.length + 1) (us ++ [u])) (hB : ∀ b, b < W.heap.size → some b ≠ v.ownBlock → W'.heap[b]? = W.heap[b]?) (hf : ∀ g, v'.ownBlock = some g → v.ownBlock = some g ∨ W.heap.size ≤ g)
    (hu : W'.ownsRow base E s u r.length (enc r)) (huf : ∀ g, u.ownBlock = some g → W.heap.size ≤ g ∧ v'.ownBlock ≠ some g) :
    LL W' base T E s enc v' (us ++ [u]) (R ++ [r]) := by
  have hl := h.len
  refine ⟨by rw [List.length_append]; exact hv, fun j hj => ?_, fun j g hj he => ?_, fun j k g hj hk hne he => ?_⟩
  · rw [List.length_append] at hj
    simp only [List.length_cons, List.length_nil] at hj
    rw [getD_snoc (by omega), getD_snoc hj, hl]
    by_cases e : j = R.length
    · rw [if_pos e, if_pos e]; exact hu
    · rw [if_neg e, if_neg e]
      exact own_keep2 (h.2.1 j (by omega)) fun g hv' hl' => hB g hl' (fun e' => h.2.2.1 j g (by omega) hv' e'.symm)
  · rw [List.length_append] at hj
    simp only [List.length_cons, List.length_nil] at hj
    rw [getD_snoc (by omega), hl] at he
    intro e2
    by_cases e : j = R.length
    · rw [if_pos e] at he; exact (huf g he).2 e2
    · rw [if_neg e] at he
      rcases hf g e2 with e' | e'
      · exact h.2.2.1 j g (by omega) he e'
      · have := ((h.2.1 j (by omega)).lt g he).2; omega
  · rw [List.length_append] at hj hk
    simp only [List.length_cons, List.length_nil] at hj hk
    rw [getD_snoc (by omega), hl] at he ⊢
    by_cases e1 : j = R.length
    · rw [if_pos e1] at he
      rw [if_neg (by omega)]
      intro e2
      have h1 := (huf g he).1
      have h2 := ((h.2.1 k (by omega)).lt g e2).2
      omega
    · rw [if_neg e1] at he
      by_cases e2 : k = R.length
      · rw [if_pos e2]
        intro e3
        have h1 := (huf g e3).1
        have h2 := ((h.2.1 j (by omega)).lt g he).2
        omega
      · rw [if_neg e2]; exact h.2.2.2 j k g (by omega) (by omega) hne he
/-- Lists of ints can be read. -/
theorem LL.crow {W : World} {base T E : Nat} {a : Option Addr} {c : Nat} {us : List Value} {R : List (List Int)} (h : LL W base T E 1 ints (.slice a R.length c) us R) : CRow W a R := by
  rcases h.1.2 with ⟨hv, hn⟩ | ⟨g, cap, cur, hv, _, hg, _⟩
  · exact Or.inl (List.length_eq_zero_iff.1 hn)
  · cases hv
    refine Or.inr ⟨g, 0, rfl, (Array.getElem?_eq_some_iff.1 hg).1, fun i hi => ?_⟩
    have ho := h.2.1 i hi
    have hc := h.cell hi
    rw [Nat.zero_add, hc]
    rcases ho.2 with ⟨hv, hn⟩ | ⟨g', cap', cur', hv, _⟩
    · exact ⟨none, 0, by rw [hv, hn], Or.inl (List.length_eq_zero_iff.1 hn)⟩
    · refine ⟨some ⟨g', 0, none⟩, cap', by rw [hv], ?_⟩
      rw [hv] at ho
      exact arow_owns rfl ho
end Go.Proofs.Ytnchkgblpnompaa
namespace Go.Proofs.Ytnchkgblpnompaa
open Go.RowKit

theorem rm_take {b : List (Int × Int)} {k : Nat} (hk : k < b.length) : It.rm (b.take (k + 1)) = It.rm (b.take k) - (b.getD k (0, 0)).2 := by
  have : b.take (k + 1) = b.take k ++ [b.getD k (0, 0)] := by rw [List.take_add_one]; simp [hk]
  rw [this, It.rm_snoc]
theorem rm_bd {b : List (Int × Int)} (h : ∀ x ∈ b, 1 ≤ x.2 ∧ x.2 ≤ 20) : ∀ k, k ≤ b.length → 20 - 20 * (k : Int) ≤ It.rm (b.take k) ∧ It.rm (b.take k) ≤ 20
  | 0, _ => by simp [It.rm_nil]
  | k + 1, hk => by
    have ih := rm_bd h k (by omega)
    have hm : b.getD k (0, 0) ∈ b := by simp [show k < b.length by omega]
    have := h _ hm
    rw [rm_take (by omega)]
    omega
set_option maxRecDepth 100000 in
set_option maxHeartbeats 2000000 in
theorem ri_any {a : Option Addr} {n c : Nat} {b : List (Int × Int)} {w : World} (hb : b.length = n) (hn : n ≤ 900) (hsz : ∀ x ∈ b, 1 ≤ x.2 ∧ x.2 ≤ 20) (ha : FRow w a b) :
    Calls Try.prog 48 #[.slice a n c] w fun e w' => e = .returned (.int .i64 (It.rm b)) ∧ Below w.heap.size w w' := by
  have HB := hide hb
  have HA := hide ha
  have HBD := hide (rm_bd hsz)
  have HE : Hid (It.rm (b.take n) = It.rm b) := hide (by rw [← hb, List.take_length])
  have HSZ := hide hsz
  clear hb ha hsz
  go_enter Try.func48, Try.ntmps48
  go_wp2_with fail
  go_loopw [3, 5, 8] (fun s3 _ s8 wr => ∃ (k : Nat) (z : Int), s3 = .int .i64 z ∧ s8 = .int .i64 k ∧ k ≤ n ∧ Hid (z = It.rm (b.take k)) ∧ Hid (Below w.heap.size w wr)) (fun _ _ s8 _ => n - (intOf s8).toNat)
  case atStart => exact ⟨0, 20, rfl, rfl, Nat.zero_le _, hide rfl, hide (Below.refl _ _)⟩
  case round =>
    obtain ⟨k, z, rfl, rfl, hk, HZ, HW⟩ := hrel
    have hzb := HBD.out k (by rw [HB.out]; exact hk)
    rw [← HZ.out] at hzb
    by_cases hlt : k < n
    · obtain ⟨q, o, rfl, hq, r1, r2⟩ := HA.out.at (i := k) (by rw [HB.out]; exact hlt)
      have k1 := (HW.out.cell (p := ⟨q, o + k * 2, none⟩) hq).trans r1
      have k2 := (HW.out.cell (p := ⟨q, o + k * 2 + 1, none⟩) hq).trans r2
      have i0 : (0 : Int) ≤ (k : Int) := by omega
      have i1 : (k : Int) < (n : Int) := by omega
      have HST := hide (rm_take (show k < b.length by rw [HB.out]; exact hlt))
      have hm : b.getD k (0, 0) ∈ b := by simp [show k < b.length by rw [HB.out]; exact hlt]
      have hsz := HSZ.out _ hm
      generalize (b.getD k (0, 0)).1 = x1 at *
      generalize (b.getD k (0, 0)).2 = x2 at *
      have hws : IntKind.i64.wrap (z - x2) = z - x2 := by rw [IntKind.wrap_i64]; omega
      clear r1 r2 hm
      go_wp2_with fail
      go_roundw
      case rel => exact ⟨k + 1, z - x2, by go_num, by go_num, by omega, hide (by rw [HST.out, HZ.out]), hide (by first | exact (HW.out.alloc HW.out.size _) | exact ((HW.out.alloc HW.out.size _).setCell (p := ⟨_, 0, none⟩) (HW.out.size) _))⟩
      case measure => simp only [intOf]; omega
    · have hke : k = n := by omega
      subst hke
      have HF : Hid (z = It.rm b) := hide (HZ.out.trans HE.out)
      go_wp2_with fail
      go_ret
      exact ⟨by rw [← HF.out]; rfl, HW.out⟩
end Go.Proofs.Ytnchkgblpnompaa
namespace Go.Proofs.Ytnchkgblpnompaa
open Go.RowKit

set_option maxRecDepth 100000 in
set_option maxHeartbeats 1000000 in
theorem pcl_any {a : Option Addr} {n c Q : Nat} {b : List (Int × Int)} {s : Int} {w : World} (hb : b.length = n) (hn : n ≤ 900) (hsz : ∀ x ∈ b, 1 ≤ x.2 ∧ x.2 ≤ 20) (ha : FRow w a b) (hQ : w.cell? ⟨Q, 1, none⟩ = some (.int .i64 s)) :
    Calls Try.prog 47 #[.slice a n c, .pointer (some ⟨Q, 0, none⟩)] w fun e w' => e = .returned (.bool (decide (s ≤ It.rm b))) ∧ Below w.heap.size w w' := by
  have HR := hide fun (W : World) (h : Below w.heap.size w W) => ri_any (w := W) (c := c) hb hn hsz (ha.below h)
  have hQl : Q < w.heap.size := World.block_lt_of_cell? w _ hQ
  have HQ := hide fun (W : World) (h : Below w.heap.size w W) => (h.cell (p := ⟨Q, 1, none⟩) hQl).trans hQ
  generalize It.rm b = r at *
  have HD := hide ((Below.refl w.heap.size w).drew)
  clear hb hsz ha
  by_cases hsr : s ≤ r
  · rw [show decide (s ≤ r) = true by simp [hsr]]
    go_enter Try.func47, Try.ntmps47
    go_upto_region 1 with fail
    go_region_with (first
      | (go_at_call 48; refine (HR.out _ HD.out).mono ?_; rintro e w1 ⟨rfl, hb1⟩; have q1 := HQ.out _ (HD.out.trans hb1); have B1 := hide (HD.out.trans hb1); clear hb1))
    all_goals
      go_wp2_with fail
      go_ret
      exact ⟨rfl, B1.out⟩
  · have hd : decide (s ≤ r) = false := decide_eq_false hsr
    have hrs : r < s := by omega
    rw [hd]
    go_enter Try.func47, Try.ntmps47
    go_upto_region 1 with fail
    go_region_with (first
      | (go_at_call 48; refine (HR.out _ HD.out).mono ?_; rintro e w1 ⟨rfl, hb1⟩; have q1 := HQ.out _ (HD.out.trans hb1); have B1 := hide (HD.out.trans hb1); clear hb1))
    all_goals
      go_wp2_with fail
      go_ret
      exact ⟨rfl, B1.out⟩
set_option maxRecDepth 100000 in
set_option maxHeartbeats 2000000 in
theorem ifT_any {base T G cap N Q : Nat} {us : List Value} {B : List (List (Int × Int))} {s : Int} {v : Value} {w : World} (h : LL w base T 61 2 ite v us B) (hN : B.length = N) (hn : N ≤ 900) (hb9 : ∀ i, i < N → (B.getD i []).length ≤ 900) (hsz : ∀ i, i < N → ∀ x ∈ B.getD i [], 1 ≤ x.2 ∧ x.2 ≤ 20) (hQ : w.cell? ⟨Q, 1, none⟩ = some (.int .i64 s)) (hv : v = .slice (some ⟨G, 0, none⟩) N cap ∨ N = 0) :
    Calls Try.prog 46 #[v, .func (.func 47) #[] #[.pointer (some ⟨Q, 0, none⟩)]] w fun e w' => e = .returned (.int .i64 (if It.atI B s < N then (It.atI B s : Int) else -1)) ∧ Below w.heap.size w w' := by
  obtain ⟨A, hA⟩ : ∃ A, (if It.atI B s < N then (It.atI B s : Int) else -1) = A := ⟨_, rfl⟩
  rw [hA]
  have HAA := hide hA
  clear hA
  have eg : ∀ args w, (callFunc 47 args).run Try.prog w = .ok (.enter 47 args) w := enters_of Try.func47 (by kernel_rfl) rfl
  obtain ⟨av, cv, ev⟩ := h.form
  rw [hN] at ev
  subst ev
  have HL := hide fun (W : World) (hW : Below w.heap.size w W) => h.below hW
  have hQl : Q < w.heap.size := World.block_lt_of_cell? w _ hQ
  have HQ := hide fun (W : World) (h : Below w.heap.size w W) => (h.cell (p := ⟨Q, 1, none⟩) hQl).trans hQ
  have HN := hide hN
  have HB9 := hide hb9
  have HSZ := hide hsz
  have HV := hide hv
  clear hv hN hb9 hsz h hQ
  go_enter Try.func46, Try.ntmps46
  go_wp2_with fail
  go_loopw [4, 5, 8] (fun s4 _ s8 wr => ∃ (k : Nat), s4 = .int .i64 0 ∧ s8 = .int .i64 k ∧ k ≤ N ∧ Hid (∀ t, t < k → It.rm (B.getD t []) < s) ∧ Hid (Below w.heap.size w wr)) (fun _ _ s8 _ => N - (intOf s8).toNat)
  case atStart => exact ⟨0, rfl, rfl, Nat.zero_le _, hide fun t ht => absurd ht (Nat.not_lt_zero _), hide (Below.refl _ _)⟩
  case round =>
    obtain ⟨k, rfl, rfl, hk, HNO, HB⟩ := hrel
    by_cases hlt : k < N
    · obtain rfl : av = some ⟨G, 0, none⟩ := by
        rcases HV.out with e | e
        · cases e; rfl
        · omega
      have LW := HL.out _ HB.out
      have i0 : (0 : Int) ≤ (k : Int) := by omega
      have i1 : (k : Int) < (N : Int) := by omega
      have hkB : k < B.length := by rw [HN.out]; exact hlt
      have q1 : wr.cell? ⟨G, k, none⟩ = some (us.getD k nilS) := by
        have LW' := LW
        rw [← HN.out] at LW'
        exact LW'.cell hkB
      obtain ⟨ar, cr, er, hr⟩ := own_items rfl (LW.2.1 k hkB)
      rw [er] at q1
      have HC := hide (pcl_any (c := cr) rfl (HB9.out k hlt) (HSZ.out k hlt) hr (HQ.out _ HB.out))
      generalize hL : (B.getD k []).length = len at *
      clear LW er hr hL
      by_cases hs : s ≤ It.rm (B.getD k [])
      · have HE : Hid (A = (k : Int)) := hide (by
          rw [← HAA.out, It.at_yes hkB hs (fun t ht => by have := HNO.out t ht; omega), if_pos hlt])
        rw [decide_eq_true hs] at HC
        go_wp2_with (go_at_fn 47; refine HC.out.mono ?_; rintro e w1 ⟨rfl, hb1⟩)
        go_ret
        exact ⟨ret_int HE.out.symm, HB.out.trans (hb1.mono HB.out.size)⟩
      · have HN1 : Hid (∀ t, t < k + 1 → It.rm (B.getD t []) < s) := hide fun t ht => by
          by_cases e : t = k
          · subst e; omega
          · exact HNO.out t (by omega)
        rw [decide_eq_false hs] at HC
        go_wp2_with (go_at_fn 47; refine HC.out.mono ?_; rintro e w1 ⟨rfl, hb1⟩)
        have HB1 := hide (HB.out.trans (hb1.mono HB.out.size))
        go_roundw
        case rel => exact ⟨k + 1, rfl, by go_num, by omega, HN1, HB1⟩
        case measure => simp only [intOf]; omega
    · have hke : k = N := by omega
      subst hke
      have HE : Hid (A = -1) := hide (by
        rw [← HAA.out, It.at_no (fun t ht => by have := HNO.out t (by rw [HN.out] at ht; exact ht); omega), if_neg (by rw [HN.out]; omega)])
      go_wp2_with fail
      go_ret
      exact ⟨ret_int HE.out.symm, HB.out⟩
end Go.Proofs.Ytnchkgblpnompaa
namespace Go.Proofs.Ytnchkgblpnompaa.Ma
/-- The bins that each load is told of. -/
def bins (F : List (List Bool)) : Nat := (F.getD 0 []).length
def goodB (F : List (List Bool)) : Bool := decide (F.length ≤ 8) && F.all fun r => decide (r.length = bins F) && decide (r.length ≤ 8)
theorem goodB_len {F : List (List Bool)} (h : goodB F = true) : F.length ≤ 8 := by simp [goodB] at h; exact h.1
theorem goodB_row {F : List (List Bool)} (h : goodB F = true) {l : Nat} (hl : l < F.length) : (F.getD l []).length = bins F := by
  simp [goodB] at h
  have := h.2 F[l] (List.getElem_mem hl)
  simp [hl, this]
theorem goodB_bins {F : List (List Bool)} (h : goodB F = true) : bins F ≤ 8 := by
  by_cases e : F.length = 0
  · have : F = [] := List.length_eq_zero_iff.1 e
    subst this; simp [bins]
  · simp [goodB] at h
    have h0 : 0 < F.length := by omega
    have := h.2 F[0] (List.getElem_mem h0)
    omega
theorem goodB_many {F : List (List Bool)} (h : 8 < F.length) : goodB F = false := by simp [goodB, show ¬ F.length ≤ 8 by omega]
theorem goodB_wide {F : List (List Bool)} (h : 8 < bins F) : goodB F = false := by
  cases e : goodB F
  · rfl
  · have := goodB_bins e; omega
theorem goodB_not {F : List (List Bool)} {l : Nat} (hl : l < F.length) (h : (F.getD l []).length ≠ bins F ∨ 8 < (F.getD l []).length) : goodB F = false := by
  cases e : goodB F
  · rfl
  · have h1 := goodB_row e hl; have h2 := goodB_bins e; omega
theorem goodB_of {F : List (List Bool)} (h : F.length ≤ 8) (h2 : ∀ l, l < F.length → (F.getD l []).length = bins F ∧ (F.getD l []).length ≤ 8) : goodB F = true := by
  simp only [goodB, Bool.and_eq_true, decide_eq_true_eq, List.all_eq_true]
  refine ⟨h, fun r hr => ?_⟩
  obtain ⟨i, hi, rfl⟩ := List.getElem_of_mem hr
  have := h2 i hi
  simpa [hi] using this
/-- Whether load l fits bin b. -/
def fit (F : List (List Bool)) (l b : Nat) : Bool := (F.getD l []).getD b false

/-- A search through the bins from b on, k of them, for load l; rc: the search for the load that has a bin. -/
def scan (F : List (List Bool)) (own : List Int) (rc : Nat → List Bool → Option (List (Nat × Nat)) × List Bool) (l : Nat) : Nat → Nat → List Bool → Option (List (Nat × Nat)) × List Bool
  | _, 0, t => (none, t)
  | b, k + 1, t =>
    if fit F l b && !t.getD b false then
      if own.getD b (-1) < 0 then (some [(l, b)], t.set b true)
      else match rc (own.getD b (-1)).toNat (t.set b true) with
        | (some w, t') => (some ((l, b) :: w), t')
        | (none, t') => scan F own rc l (b + 1) k t'
    else scan F own rc l (b + 1) k t
def srch (F : List (List Bool)) (own : List Int) : Nat → Nat → List Bool → Option (List (Nat × Nat)) × List Bool
  | 0, _, t => (none, t)
  | f + 1, l, t => scan F own (srch F own f) l 0 (bins F) t

/-- How many bins are not tried yet. -/
def left (t : List Bool) : Nat := t.count false
theorem left_set {t : List Bool} {b : Nat} (hb : b < t.length) (h : t.getD b false = false) : left (t.set b true) + 1 = left t := by
  have e : t[b] = false := by simpa [hb] using h
  have hp : 0 < List.count false t := List.count_pos_iff.2 (e ▸ List.getElem_mem hb)
  unfold left
  rw [List.count_set hb]
  simp [e]; omega
theorem left_mono : ∀ {t t' : List Bool}, t'.length = t.length → (∀ b, t.getD b false = true → t'.getD b false = true) → left t' ≤ left t
  | [], t', h, _ => by
    have : t' = [] := List.length_eq_zero_iff.1 h
    subst this; exact Nat.le_refl _
  | x :: t, [], h, _ => by simp at h
  | x :: t, y :: t', h, hm => by
    have ih := left_mono (t := t) (t' := t') (by simpa using h) (fun b hb => by have := hm (b + 1); simp at this; simpa using this (by simpa using hb))
    have h0 := hm 0
    simp at h0
    unfold left at *
    cases x <;> cases y <;> simp_all <;> omega
theorem get_set (t : List Bool) (b c : Nat) (hb : b < t.length) : (t.set b true).getD c false = if c = b then true else t.getD c false := by
  by_cases e : c = b
  · subst e; simp [hb]
  · simp [e, Ne.symm e]

/-- A way: each load takes a bin that it fits, which the next one leaves; the last one is free; no bin twice. -/
inductive Chain (F : List (List Bool)) (own : List Int) : Nat → List (Nat × Nat) → Prop
  | last {l b : Nat} : b < bins F → fit F l b = true → own.getD b (-1) < 0 → Chain F own l [(l, b)]
  | step {l b l' : Nat} {w : List (Nat × Nat)} : b < bins F → fit F l b = true → own.getD b (-1) = (l' : Int) → (∀ q ∈ w, q.2 ≠ b) → Chain F own l' w → Chain F own l ((l, b) :: w)

structure Res (F : List (List Bool)) (own : List Int) (l : Nat) (f : Nat) (b0 : Nat) (t : List Bool) (r : Option (List (Nat × Nat)) × List Bool) : Prop where
  len : r.2.length = t.length
  mono : ∀ b, t.getD b false = true → r.2.getD b false = true
  way : ∀ w, r.1 = some w → Chain F own l w ∧ ∀ p ∈ w, t.getD p.2 false = false
  fail : r.1 = none → left t < f → (∀ b, b0 ≤ b → b < bins F → fit F l b = true → r.2.getD b false = true) ∧ ∀ b, b < bins F → r.2.getD b false = true → t.getD b false = false → 0 ≤ own.getD b (-1) ∧ ∀ b', b' < bins F → fit F (own.getD b (-1)).toNat b' = true → r.2.getD b' false = true

theorem scan_res {F : List (List Bool)} {own : List Int} {f : Nat} {rc : Nat → List Bool → Option (List (Nat × Nat)) × List Bool} (hrc : ∀ l t, t.length = bins F → Res F own l f 0 t (rc l t)) (l : Nat) :
    ∀ (k b : Nat) (t : List Bool), b + k = bins F → t.length = bins F → Res F own l (f + 1) b t (scan F own rc l b k t)
  | 0, b, t, hk, ht => ⟨rfl, fun _ h => h, fun w hw => by simp [scan] at hw, fun _ _ => ⟨fun b' h1 h2 => by omega, fun b' _ h1 h2 => by simp [scan] at h1; simp [h1] at h2⟩⟩
  | k + 1, b, t, hk, ht => by
    unfold scan
    by_cases hc : (fit F l b && !t.getD b false) = true
    · rw [if_pos hc]
      simp only [Bool.and_eq_true, Bool.not_eq_true'] at hc
      obtain ⟨hf, hn⟩ := hc
      have hb : b < t.length := by omega
      have hset : ∀ c, (t.set b true).getD c false = if c = b then true else t.getD c false := fun c => get_set t b c hb
      by_cases ho : own.getD b (-1) < 0
      · rw [if_pos ho]
        refine ⟨by simp, fun c hc => ?_, fun w hw => ?_, fun h => by simp at h⟩
        · simp only [hset]; split <;> simp_all
        · simp at hw; subst hw
          exact ⟨.last (by omega) hf ho, fun p hp => by simp at hp; subst hp; exact hn⟩
      · rw [if_neg ho]
        have R := hrc (own.getD b (-1)).toNat (t.set b true) (by simpa using ht)
        generalize rc (own.getD b (-1)).toNat (t.set b true) = r at R
        obtain ⟨o, t'⟩ := r
        have hm : ∀ c, t.getD c false = true → t'.getD c false = true := fun c h => R.mono c (by rw [hset]; split <;> simp_all)
        have hb' : t'.getD b false = true := R.mono b (by rw [hset]; simp)
        cases o with
        | some w =>
          refine ⟨by have := R.len; simpa using this, hm, fun w' hw' => ?_, fun h => by simp at h⟩
          simp at hw'; subst hw'
          obtain ⟨hc1, hc2⟩ := R.way w rfl
          have hne : ∀ q ∈ w, q.2 ≠ b := fun q hq e => by have := hc2 q hq; rw [e, hset] at this; simp at this
          refine ⟨.step (by omega) hf (by omega) hne hc1, fun p hp => ?_⟩
          rcases List.mem_cons.1 hp with rfl | hp
          · exact hn
          · have := hc2 p hp; rw [hset] at this; simpa [hne p hp] using this
        | none =>
          have hlen : t'.length = bins F := by have := R.len; simp at this; omega
          have S := scan_res hrc l k (b + 1) t' (by omega) hlen
          refine ⟨by rw [S.len]; omega, fun c hc => S.mono c (hm c hc), fun w hw => ?_, fun hN hL => ?_⟩
          · obtain ⟨h1, h2⟩ := S.way w hw
            refine ⟨h1, fun p hp => ?_⟩
            cases hv : t.getD p.2 false
            · rfl
            · have := hm _ hv; rw [h2 p hp] at this; cases this
          · have hl1 := left_set hb hn
            obtain ⟨f1, f2⟩ := R.fail rfl (by omega)
            have hl2 : left t' ≤ left t := left_mono (by omega) hm
            obtain ⟨s1, s2⟩ := S.fail hN (by omega)
            refine ⟨fun c h1 h2 h3 => ?_, fun c hc h1 h2 => ?_⟩
            · by_cases e : c = b
              · subst e; exact S.mono _ hb'
              · exact s1 c (by omega) h2 h3
            · cases hv : t'.getD c false
              · exact s2 c hc h1 hv
              · by_cases e : c = b
                · subst e
                  exact ⟨by omega, fun b' hb2 h4 => S.mono _ (f1 b' (Nat.zero_le _) hb2 h4)⟩
                · obtain ⟨g1, g2⟩ := f2 c hc hv (by rw [hset, if_neg e]; exact h2)
                  exact ⟨g1, fun b' hb2 h4 => S.mono _ (g2 b' hb2 h4)⟩
    · rw [if_neg hc]
      have S := scan_res hrc l k (b + 1) t (by omega) ht
      refine ⟨S.len, S.mono, S.way, fun hN hL => ?_⟩
      obtain ⟨s1, s2⟩ := S.fail hN hL
      refine ⟨fun c h1 h2 h3 => ?_, s2⟩
      by_cases e : c = b
      · subst e
        simp only [Bool.and_eq_true, Bool.not_eq_true', not_and, Bool.not_eq_false] at hc
        exact S.mono _ (hc h3)
      · exact s1 c (by omega) h2 h3
theorem srch_res (F : List (List Bool)) (own : List Int) : ∀ (f l : Nat) (t : List Bool), t.length = bins F → Res F own l f 0 t (srch F own f l t)
  | 0, l, t, _ => ⟨rfl, fun _ h => h, fun w hw => by simp [srch] at hw, fun _ h => by omega⟩
  | f + 1, l, t, ht => scan_res (srch_res F own f) l (bins F) 0 t (by omega) ht
/-- Bins that don't fit, or are tried, are passed over. -/
theorem scan_skip {F : List (List Bool)} {own : List Int} {rc : Nat → List Bool → Option (List (Nat × Nat)) × List Bool} {l : Nat} : ∀ (j k b : Nat) (t : List Bool), (∀ c, b ≤ c → c < b + j → (fit F l c && !t.getD c false) = false) → scan F own rc l b (j + k) t = scan F own rc l (b + j) k t
  | 0, k, b, t, _ => by simp
  | j + 1, k, b, t, h => by
    rw [show j + 1 + k = (j + k) + 1 by omega, scan, if_neg (by rw [h b (by omega) (by omega)]; simp), scan_skip j k (b + 1) t (fun c h1 h2 => h c (by omega) (by omega)), show b + 1 + j = b + (j + 1) by omega]
/-- m tells for each load its bin, own for each bin its load, alike; -1: none. -/
structure MO (F : List (List Bool)) (m own : List Int) : Prop where
  lm : m.length = F.length
  lo : own.length = bins F
  mo : ∀ l b : Nat, l < F.length → b < bins F → m.getD l (-1) = (b : Int) → own.getD b (-1) = (l : Int)
  om : ∀ b : Nat, b < bins F → own.getD b (-1) = -1 ∨ ∃ l : Nat, l < F.length ∧ own.getD b (-1) = (l : Int) ∧ m.getD l (-1) = (b : Int) ∧ fit F l b = true
  mm : ∀ l : Nat, l < F.length → m.getD l (-1) = -1 ∨ ∃ b : Nat, b < bins F ∧ m.getD l (-1) = (b : Int)
/-- Each load of the way takes its bin. -/
def upd (m : List Int) (w : List (Nat × Nat)) : List Int := w.foldl (fun m p => m.set p.1 (p.2 : Int)) m
def oset (own : List Int) : List (Nat × Nat) → List Int
  | [] => own
  | p :: w => (oset own w).set p.2 (p.1 : Int)
theorem upd_len : ∀ (w : List (Nat × Nat)) (m : List Int), (upd m w).length = m.length
  | [], _ => rfl
  | p :: w, m => by show (upd (m.set p.1 _) w).length = _; rw [upd_len w]; simp
theorem oset_len (own : List Int) : ∀ (w : List (Nat × Nat)), (oset own w).length = own.length
  | [] => rfl
  | p :: w => by simp [oset, oset_len own w]
theorem iget_set (m : List Int) (l c : Nat) (x : Int) (hl : l < m.length) : (m.set l x).getD c (-1) = if c = l then x else m.getD c (-1) := by
  by_cases e : c = l
  · subst e; simp [hl]
  · simp [e, Ne.symm e]
theorem upd_other : ∀ (w : List (Nat × Nat)) (m : List Int) (l : Nat), (∀ p ∈ w, p.1 < m.length) → (∀ p ∈ w, p.1 ≠ l) → (upd m w).getD l (-1) = m.getD l (-1)
  | [], _, _, _, _ => rfl
  | p :: w, m, l, hb, h => by
    show (upd (m.set p.1 _) w).getD l _ = _
    rw [upd_other w _ l (fun q hq => by simpa using hb q (List.mem_cons_of_mem _ hq)) (fun q hq => h q (List.mem_cons_of_mem _ hq)), iget_set _ _ _ _ (hb p List.mem_cons_self), if_neg (Ne.symm (h p List.mem_cons_self))]
theorem upd_at : ∀ (w : List (Nat × Nat)) (m : List Int), (∀ p ∈ w, p.1 < m.length) → (w.map Prod.fst).Nodup → ∀ p ∈ w, (upd m w).getD p.1 (-1) = (p.2 : Int)
  | [], _, _, _, p, hp => by simp at hp
  | q :: w, m, hb, hn, p, hp => by
    show (upd (m.set q.1 _) w).getD p.1 _ = _
    have hb' : ∀ r ∈ w, r.1 < (m.set q.1 (q.2 : Int)).length := fun r hr => by simpa using hb r (List.mem_cons_of_mem _ hr)
    simp only [List.map_cons, List.nodup_cons] at hn
    rcases List.mem_cons.1 hp with rfl | hp
    · rw [upd_other w _ p.1 hb' (fun r hr e => hn.1 (List.mem_map.2 ⟨r, hr, e⟩)), iget_set _ _ _ _ (hb p List.mem_cons_self), if_pos rfl]
    · exact upd_at w _ hb' hn.2 p hp
theorem oset_other (own : List Int) : ∀ (w : List (Nat × Nat)) (b : Nat), (∀ p ∈ w, p.2 < own.length) → (∀ p ∈ w, p.2 ≠ b) → (oset own w).getD b (-1) = own.getD b (-1)
  | [], _, _, _ => rfl
  | p :: w, b, hb, h => by
    show ((oset own w).set p.2 _).getD b _ = _
    rw [iget_set _ _ _ _ (by rw [oset_len]; exact hb p List.mem_cons_self), if_neg (Ne.symm (h p List.mem_cons_self)), oset_other own w b (fun q hq => hb q (List.mem_cons_of_mem _ hq)) (fun q hq => h q (List.mem_cons_of_mem _ hq))]
theorem oset_at (own : List Int) : ∀ (w : List (Nat × Nat)), (∀ p ∈ w, p.2 < own.length) → (w.map Prod.snd).Nodup → ∀ p ∈ w, (oset own w).getD p.2 (-1) = (p.1 : Int)
  | [], _, _, p, hp => by simp at hp
  | q :: w, hb, hn, p, hp => by
    show ((oset own w).set q.2 _).getD p.2 _ = _
    simp only [List.map_cons, List.nodup_cons] at hn
    rw [iget_set _ _ _ _ (by rw [oset_len]; exact hb q List.mem_cons_self)]
    rcases List.mem_cons.1 hp with rfl | hp
    · rw [if_pos rfl]
    · rw [if_neg (fun e => hn.1 (List.mem_map.2 ⟨p, hp, e⟩))]
      exact oset_at own w (fun r hr => hb r (List.mem_cons_of_mem _ hr)) hn.2 p hp
theorem Chain.bin {F : List (List Bool)} {own : List Int} {l : Nat} {w : List (Nat × Nat)} (h : Chain F own l w) : ∀ p ∈ w, p.2 < bins F ∧ fit F p.1 p.2 = true := by
  induction h with
  | last h1 h2 h3 => intro p hp; simp at hp; subst hp; exact ⟨h1, h2⟩
  | step h1 h2 h3 h4 h5 ih =>
    intro p hp
    rcases List.mem_cons.1 hp with rfl | hp
    · exact ⟨h1, h2⟩
    · exact ih p hp
theorem Chain.nodup {F : List (List Bool)} {own : List Int} {l : Nat} {w : List (Nat × Nat)} (h : Chain F own l w) : (w.map Prod.snd).Nodup := by
  induction h with
  | last h1 h2 h3 => simp
  | step h1 h2 h3 h4 h5 ih =>
    simp only [List.map_cons, List.nodup_cons]
    refine ⟨fun hm => ?_, ih⟩
    obtain ⟨q, hq, e⟩ := List.mem_map.1 hm
    exact h4 q hq e
theorem Chain.head {F : List (List Bool)} {own : List Int} {l : Nat} {w : List (Nat × Nat)} (h : Chain F own l w) : ∃ b w', w = (l, b) :: w' := by
  cases h with
  | last => exact ⟨_, _, rfl⟩
  | step => exact ⟨_, _, rfl⟩
/-- The bin of each is free or the next one's, and each but the first has a bin of the way. -/
theorem Chain.link {F : List (List Bool)} {own : List Int} {l : Nat} {w : List (Nat × Nat)} (h : Chain F own l w) :
    (∀ p ∈ w, own.getD p.2 (-1) < 0 ∨ ∃ q ∈ w, own.getD p.2 (-1) = (q.1 : Int)) ∧ ∀ q ∈ w, q.1 = l ∨ ∃ p ∈ w, own.getD p.2 (-1) = (q.1 : Int) := by
  induction h with
  | last h1 h2 h3 =>
    refine ⟨fun p hp => ?_, fun q hq => ?_⟩
    · simp at hp; subst hp; exact Or.inl h3
    · simp at hq; subst hq; exact Or.inl rfl
  | @step l b l' w h1 h2 h3 h4 h5 ih =>
    obtain ⟨b', w', rfl⟩ := h5.head
    refine ⟨fun p hp => ?_, fun q hq => ?_⟩
    · rcases List.mem_cons.1 hp with rfl | hp
      · exact Or.inr ⟨(l', b'), List.mem_cons_of_mem _ List.mem_cons_self, h3⟩
      · rcases ih.1 p hp with h | ⟨q, hq, e⟩
        · exact Or.inl h
        · exact Or.inr ⟨q, List.mem_cons_of_mem _ hq, e⟩
    · rcases List.mem_cons.1 hq with rfl | hq
      · exact Or.inl rfl
      · rcases ih.2 q hq with e | ⟨p, hp, e⟩
        · exact Or.inr ⟨(l, b), List.mem_cons_self, by rw [e]; exact h3⟩
        · exact Or.inr ⟨p, List.mem_cons_of_mem _ hp, e⟩
theorem MO.own_bin {F : List (List Bool)} {m own : List Int} (h : MO F m own) {b l : Nat} (hb : b < bins F) (e : own.getD b (-1) = (l : Int)) : l < F.length ∧ m.getD l (-1) = (b : Int) ∧ fit F l b = true := by
  rcases h.om b hb with h1 | ⟨l', hl, e', hm, hf⟩
  · omega
  · have : l = l' := by omega
    subst this; exact ⟨hl, hm, hf⟩
theorem Chain.loads {F : List (List Bool)} {m own : List Int} (hM : MO F m own) {l : Nat} {w : List (Nat × Nat)} (h : Chain F own l w) : (∀ p ∈ w, own.getD p.2 (-1) ≠ (l : Int)) → (w.map Prod.fst).Nodup := by
  induction h with
  | last h1 h2 h3 => intro _; simp
  | @step l b l' w h1 h2 h3 h4 h5 ih =>
    intro hn
    simp only [List.map_cons, List.nodup_cons]
    refine ⟨fun hm => ?_, ih fun p hp e => ?_⟩
    · obtain ⟨q, hq, e⟩ := List.mem_map.1 hm
      rcases h5.link.2 q hq with e2 | ⟨p, hp, e2⟩
      · exact hn (l, b) List.mem_cons_self (by rw [h3, ← e2, e])
      · exact hn p (List.mem_cons_of_mem _ hp) (by rw [e2, e])
    · have a := (hM.own_bin h1 h3).2.1
      have c := (hM.own_bin (h5.bin p hp).1 e).2.1
      exact h4 p hp (by omega)
theorem Chain.lt {F : List (List Bool)} {m own : List Int} (hM : MO F m own) {l : Nat} {w : List (Nat × Nat)} (hl : l < F.length) (h : Chain F own l w) : ∀ p ∈ w, p.1 < F.length := fun p hp => by
  rcases h.link.2 p hp with e | ⟨q, hq, e⟩
  · omega
  · exact (hM.own_bin (h.bin q hq).1 e).1
/-- Behind a way that is taken m and own tell alike again. -/
theorem MO.took {F : List (List Bool)} {m own : List Int} (hM : MO F m own) {l : Nat} {w : List (Nat × Nat)} (hl : l < F.length) (hml : m.getD l (-1) = -1) (h : Chain F own l w) :
    MO F (upd m w) (oset own w) ∧ (upd m w).getD l (-1) ≠ -1 ∧ (∀ l', (upd m w).getD l' (-1) = -1 → m.getD l' (-1) = -1) ∧ (∀ l', l' < F.length → m.getD l' (-1) = -1 → l' ≠ l → (upd m w).getD l' (-1) = -1) ∧ (w.map Prod.fst).Nodup := by
  have hno : ∀ b, b < bins F → own.getD b (-1) ≠ (l : Int) := fun b hb e => by have := (hM.own_bin hb e).2.1; omega
  have hnd := h.loads hM (fun p hp => hno p.2 (h.bin p hp).1)
  have hlt : ∀ p ∈ w, p.1 < m.length := fun p hp => by rw [hM.lm]; exact h.lt hM hl p hp
  have hbt : ∀ p ∈ w, p.2 < own.length := fun p hp => by rw [hM.lo]; exact (h.bin p hp).1
  have ua := upd_at w m hlt hnd
  have uo := fun l' => upd_other w m l' hlt
  have oa := oset_at own w hbt h.nodup
  have oo := fun b => oset_other own w b hbt
  have memL : ∀ l', (∃ p ∈ w, p.1 = l') ∨ ∀ p ∈ w, p.1 ≠ l' := fun l' => by
    by_cases e : ∃ p ∈ w, p.1 = l'
    · exact Or.inl e
    · exact Or.inr fun p hp e' => e ⟨p, hp, e'⟩
  have memB : ∀ b, (∃ p ∈ w, p.2 = b) ∨ ∀ p ∈ w, p.2 ≠ b := fun b => by
    by_cases e : ∃ p ∈ w, p.2 = b
    · exact Or.inl e
    · exact Or.inr fun p hp e' => e ⟨p, hp, e'⟩
  refine ⟨⟨by rw [upd_len, hM.lm], by rw [oset_len, hM.lo], fun l' b hl' hb e => ?_, fun b hb => ?_, fun l' hl' => ?_⟩, ?_, fun l' e => ?_, fun l' hl' e hne => ?_, hnd⟩
  · rcases memL l' with ⟨p, hp, rfl⟩ | hn
    · rw [ua p hp] at e
      have : p.2 = b := by omega
      subst this; exact oa p hp
    · rw [uo l' hn] at e
      have ho := hM.mo l' b hl' hb e
      rw [oo b fun p hp e2 => ?_]
      · exact ho
      · subst e2
        rcases h.link.1 p hp with h1 | ⟨q, hq, h1⟩
        · omega
        · exact hn q hq (by omega)
  · rcases memB b with ⟨p, hp, rfl⟩ | hn
    · exact Or.inr ⟨p.1, h.lt hM hl p hp, oa p hp, ua p hp, (h.bin p hp).2⟩
    · rw [oo b hn]
      rcases hM.om b hb with h1 | ⟨l', hl', e1, e2, e3⟩
      · exact Or.inl h1
      · refine Or.inr ⟨l', hl', e1, ?_, e3⟩
        rw [uo l' fun q hq e => ?_]
        · exact e2
        · subst e
          rcases h.link.2 q hq with e4 | ⟨p, hp, e4⟩
          · rw [e4, hml] at e2; omega
          · have := (hM.own_bin (h.bin p hp).1 e4).2.1
            exact hn p hp (by omega)
  · rcases memL l' with ⟨p, hp, rfl⟩ | hn
    · exact Or.inr ⟨p.2, (h.bin p hp).1, ua p hp⟩
    · rw [uo l' hn]; exact hM.mm l' hl'
  · obtain ⟨b, w', rfl⟩ := h.head
    have := ua (l, b) List.mem_cons_self
    simp only at this
    rw [this]; omega
  · rcases memL l' with ⟨p, hp, rfl⟩ | hn
    · rw [ua p hp] at e; omega
    · rw [uo l' hn] at e; exact e
  · rw [uo l' fun q hq e2 => ?_]
    · exact e
    · subst e2
      rcases h.link.2 q hq with e4 | ⟨p, hp, e4⟩
      · exact hne e4
      · have := (hM.own_bin (h.bin p hp).1 e4).2.1
        omega

/-- What is closed: all of it is owned, and owners fit nothing outside. -/
def Clo (F : List (List Bool)) (own : List Int) (R : Nat → Prop) : Prop := ∀ b, b < bins F → R b → 0 ≤ own.getD b (-1) ∧ ∀ b', b' < bins F → fit F (own.getD b (-1)).toNat b' = true → R b'
theorem Chain.out {F : List (List Bool)} {own : List Int} {R : Nat → Prop} (hR : Clo F own R) {l : Nat} {w : List (Nat × Nat)} (h : Chain F own l w) : ∀ p ∈ w, ¬ R p.2 := by
  induction h with
  | last h1 h2 h3 =>
    intro p hp hr
    simp at hp; subst hp
    have := (hR _ h1 hr).1
    omega
  | @step l b l' w h1 h2 h3 h4 h5 ih =>
    intro p hp hr
    rcases List.mem_cons.1 hp with rfl | hp
    · obtain ⟨b', w', rfl⟩ := h5.head
      have q := h5.bin (l', b') List.mem_cons_self
      have := (hR _ h1 hr).2 b' q.1 (by rw [h3]; exact q.2)
      exact ih (l', b') List.mem_cons_self this
    · exact ih p hp hr
structure Inv (F : List (List Bool)) (k : Nat) (m own : List Int) : Prop where
  mo : MO F m own
  later : ∀ l, k ≤ l → l < F.length → m.getD l (-1) = -1
  clo : ∃ R : Nat → Prop, Clo F own R ∧ ∀ l, l < k → l < F.length → m.getD l (-1) = -1 → ∀ b, b < bins F → fit F l b = true → R b
def none8 (n : Nat) : List Int := List.replicate n (-1)
theorem none8_get (n i : Nat) : (none8 n).getD i (-1) = -1 := by
  unfold none8
  rw [List.getD_eq_getElem?_getD, List.getElem?_replicate]
  split <;> rfl
theorem inv_zero (F : List (List Bool)) : Inv F 0 (none8 F.length) (none8 (bins F)) :=
  ⟨⟨by simp [none8], by simp [none8], fun l b _ _ e => by rw [none8_get] at e; omega, fun b _ => Or.inl (none8_get _ _), fun l _ => Or.inl (none8_get _ _)⟩, fun l _ _ => none8_get _ _, fun _ => False, fun _ _ h => h.elim, fun l hl => by omega⟩
/-- The search for a load, from no bin tried. -/
def look (F : List (List Bool)) (own : List Int) (l : Nat) : Option (List (Nat × Nat)) := (srch F own 9 l (List.replicate (bins F) false)).1
def next (F : List (List Bool)) (s : List Int × List Int) (l : Nat) : List Int × List Int :=
  match look F s.2 l with
  | some w => (upd s.1 w, oset s.2 w)
  | none => s
def upto (F : List (List Bool)) : Nat → List Int × List Int
  | 0 => (none8 F.length, none8 (bins F))
  | k + 1 => next F (upto F k) k
theorem left_new (n : Nat) : left (List.replicate n false) = n := by simp [left]
theorem inv_next {F : List (List Bool)} (hG : bins F ≤ 8) {k : Nat} {s : List Int × List Int} (hk : k < F.length) (h : Inv F k s.1 s.2) : Inv F (k + 1) (next F s k).1 (next F s k).2 := by
  have R := srch_res F s.2 9 k (List.replicate (bins F) false) (by simp)
  unfold next look
  generalize srch F s.2 9 k (List.replicate (bins F) false) = r at R
  obtain ⟨o, t'⟩ := r
  cases o with
  | some w =>
    obtain ⟨hc, _⟩ := R.way w rfl
    obtain ⟨t1, t2, t3, t4, t5⟩ := h.mo.took hk (h.later k (Nat.le_refl _) hk) hc
    refine ⟨t1, fun l h1 h2 => t4 l h2 (h.later l (by omega) h2) (by omega), ?_⟩
    obtain ⟨Q, hQ, hU⟩ := h.clo
    refine ⟨Q, fun b hb hr => ?_, fun l h1 h2 h3 => ?_⟩
    · have e : (oset s.2 w).getD b (-1) = s.2.getD b (-1) := oset_other s.2 w b (fun p hp => by rw [h.mo.lo]; exact (hc.bin p hp).1) fun p hp e => hc.out hQ p hp (e ▸ hr)
      show 0 ≤ (oset s.2 w).getD b (-1) ∧ ∀ b', b' < bins F → fit F ((oset s.2 w).getD b (-1)).toNat b' = true → Q b'
      rw [e]
      exact hQ b hb hr
    · have h3' : (upd s.1 w).getD l (-1) = -1 := h3
      by_cases e : l = k
      · subst e; exact absurd h3' t2
      · exact hU l (by omega) h2 (t3 l h3')
  | none =>
    obtain ⟨f1, f2⟩ := R.fail rfl (by rw [left_new]; omega)
    refine ⟨h.mo, fun l h1 h2 => h.later l (by omega) h2, ?_⟩
    obtain ⟨Q, hQ, hU⟩ := h.clo
    refine ⟨fun b => Q b ∨ t'.getD b false = true, fun b hb hr => ?_, fun l h1 h2 h3 b hb hf => ?_⟩
    · rcases hr with hr | hr
      · exact ⟨(hQ b hb hr).1, fun b' h1 h2 => Or.inl ((hQ b hb hr).2 b' h1 h2)⟩
      · have := f2 b hb hr (by rw [List.getD_eq_getElem?_getD, List.getElem?_replicate]; split <;> rfl)
        exact ⟨this.1, fun b' h1 h2 => Or.inr (this.2 b' h1 h2)⟩
    · by_cases e : l = k
      · subst e; exact Or.inr (f1 b (Nat.zero_le _) hb hf)
      · exact Or.inl (hU l (by omega) h2 h3 b hb hf)
theorem inv_upto {F : List (List Bool)} (hG : bins F ≤ 8) : ∀ k, k ≤ F.length → Inv F k (upto F k).1 (upto F k).2
  | 0, _ => inv_zero F
  | k + 1, h => inv_next hG (by omega) (inv_upto hG k (by omega))
/-- The matching, and each bin's load. -/
def mat (F : List (List Bool)) : List Int := (upto F F.length).1
def own (F : List (List Bool)) : List Int := (upto F F.length).2
theorem inv_mat {F : List (List Bool)} (h : goodB F = true) : Inv F F.length (mat F) (own F) := inv_upto (goodB_bins h) _ (Nat.le_refl _)
/-- What the bins below k tell of m. -/
def part (m : List Int) (k : Nat) : List Int := m.map fun x => if x < (k : Int) then x else -1
theorem part_len (m : List Int) (k : Nat) : (part m k).length = m.length := by simp [part]
theorem part_get (m : List Int) (k l : Nat) : (part m k).getD l (-1) = if m.getD l (-1) < (k : Int) then m.getD l (-1) else -1 := by
  unfold part
  by_cases h : l < m.length
  · simp [h]
  · simp [show m.length ≤ l by omega]
theorem ext_get {a b : List Int} (hl : a.length = b.length) (h : ∀ i, i < a.length → a.getD i (-1) = b.getD i (-1)) : a = b := by
  apply List.ext_getElem hl
  intro i h1 h2
  have := h i h1
  simpa [h1, h2] using this
theorem part_zero {F : List (List Bool)} {m own : List Int} (h : MO F m own) : part m 0 = none8 F.length := by
  apply ext_get
  · rw [part_len, h.lm]; simp [none8]
  · intro i hi
    rw [part_len, h.lm] at hi
    rw [part_get, none8_get]
    rcases h.mm i hi with e | ⟨b, hb, e⟩
    · rw [e]; simp
    · rw [e]; simp
theorem part_all {F : List (List Bool)} {m own : List Int} (h : MO F m own) : part m (bins F) = m := by
  apply ext_get
  · rw [part_len]
  · intro i hi
    rw [part_len, h.lm] at hi
    rw [part_get]
    rcases h.mm i hi with e | ⟨b, hb, e⟩
    · rw [e]; simp
    · rw [e, if_pos (by omega)]
theorem part_none {F : List (List Bool)} {m own : List Int} (h : MO F m own) {k : Nat} (hk : k < bins F) (e : own.getD k (-1) = -1) : part m (k + 1) = part m k := by
  apply ext_get
  · rw [part_len, part_len]
  · intro i hi
    rw [part_len, h.lm] at hi
    rw [part_get, part_get]
    have : m.getD i (-1) ≠ (k : Int) := fun e' => by have := h.mo i k hi hk e'; omega
    split <;> split <;> omega
theorem part_some {F : List (List Bool)} {m own : List Int} (h : MO F m own) {k l : Nat} (hk : k < bins F) (e : own.getD k (-1) = (l : Int)) : (part m k).set l (k : Int) = part m (k + 1) := by
  obtain ⟨h1, h2, _⟩ := h.own_bin hk e
  apply ext_get
  · simp [part_len]
  · intro i hi
    simp only [List.length_set, part_len, h.lm] at hi
    rw [iget_set _ _ _ _ (by rw [part_len, h.lm]; exact h1), part_get, part_get]
    by_cases c : i = l
    · subst c; rw [if_pos rfl, h2, if_pos (by omega)]
    · rw [if_neg c]
      have : m.getD i (-1) ≠ (k : Int) := fun e' => by have := h.mo i k hi hk e'; omega
      split <;> split <;> omega
/-- The first place of a bin in m is its owner. -/
theorem MO.first {F : List (List Bool)} {m own : List Int} (h : MO F m own) {b : Nat} (hb : b < bins F) :
    (own.getD b (-1) = -1 ∧ ∀ l, l < m.length → m.getD l (-1) ≠ (b : Int)) ∨ ∃ l, l < m.length ∧ own.getD b (-1) = (l : Int) ∧ m.getD l (-1) = (b : Int) ∧ ∀ l', l' < m.length → m.getD l' (-1) = (b : Int) → l' = l := by
  rcases h.om b hb with e | ⟨l, hl, e1, e2, _⟩
  · exact Or.inl ⟨e, fun l hl e2 => by have := h.mo l b (by rw [← h.lm]; exact hl) hb e2; omega⟩
  · exact Or.inr ⟨l, by rw [h.lm]; exact hl, e1, e2, fun l' hl' e3 => by have := h.mo l' b (by rw [← h.lm]; exact hl') hb e3; omega⟩
end Go.Proofs.Ytnchkgblpnompaa.Ma
namespace Go.Proofs.Ytnchkgblpnompaa.Ma

/-- All lists of n yes or no. -/
def alls : Nat → List (List Bool)
  | 0 => [[]]
  | n + 1 => (alls n).flatMap fun l => [false :: l, true :: l]
theorem mem_alls : ∀ (l : List Bool), l ∈ alls l.length
  | [] => by simp [alls]
  | x :: l => by
    simp only [List.length_cons, alls, List.mem_flatMap]
    exact ⟨l, mem_alls l, by cases x <;> simp⟩
theorem alls_len : ∀ {n : Nat} {l : List Bool}, l ∈ alls n → l.length = n
  | 0, l, h => by simp [alls] at h; subst h; rfl
  | n + 1, l, h => by
    simp only [alls, List.mem_flatMap] at h
    obtain ⟨l', h1, h2⟩ := h
    have := alls_len h1
    simp at h2
    rcases h2 with rfl | rfl <;> simp [this]
/-- Loads and bins that hold all that is come to from loads without a bin. -/
def Shut (F : List (List Bool)) (m : List Int) (A B : List Bool) : Prop :=
  ∀ l, l < F.length → (m.getD l (-1) = -1 → A.getD l false = true) ∧ ∀ b, b < bins F → (A.getD l false = true → fit F l b = true → B.getD b false = true) ∧ (B.getD b false = true → m.getD l (-1) = (b : Int) → A.getD l false = true)
def shutB (F : List (List Bool)) (m : List Int) (A B : List Bool) : Bool :=
  (List.range F.length).all fun l => (!(m.getD l (-1) == -1) || A.getD l false) && (List.range (bins F)).all fun b => (!(A.getD l false && fit F l b) || B.getD b false) && (!(B.getD b false && (m.getD l (-1) == (b : Int))) || A.getD l false)
theorem shutB_iff {F : List (List Bool)} {m : List Int} {A B : List Bool} : shutB F m A B = true ↔ Shut F m A B := by
  simp only [shutB, Shut, List.all_eq_true, List.mem_range, Bool.and_eq_true, Bool.or_eq_true, Bool.not_eq_true', beq_eq_false_iff_ne, Bool.and_eq_false_imp]
  constructor
  · intro h l hl
    refine ⟨fun e => (h l hl).1.resolve_left fun c => c e, fun b hb => ⟨fun h1 h2 => ?_, fun h1 h2 => ?_⟩⟩
    · rcases ((h l hl).2 b hb).1 with c | c
      · have := c h1; simp [h2] at this
      · exact c
    · rcases ((h l hl).2 b hb).2 with c | c
      · exact absurd h2 (c h1)
      · exact c
  · intro h l hl
    refine ⟨?_, fun b hb => ⟨?_, ?_⟩⟩
    · by_cases e : m.getD l (-1) = -1
      · exact Or.inr ((h l hl).1 e)
      · exact Or.inl e
    · cases e : B.getD b false
      · refine Or.inl fun h1 => ?_
        cases e2 : fit F l b
        · rfl
        · have := ((h l hl).2 b hb).1 h1 e2; rw [e] at this; cases this
      · exact Or.inr rfl
    · cases e : A.getD l false
      · refine Or.inl fun h1 h2 => ?_
        have := ((h l hl).2 b hb).2 h1 h2; rw [e] at this; cases this
      · exact Or.inr rfl
/-- The loads and the bins come to. -/
def rL (F : List (List Bool)) (m : List Int) : List Bool := (List.range F.length).map fun l => (alls F.length).all fun A => (alls (bins F)).all fun B => !shutB F m A B || A.getD l false
def rB (F : List (List Bool)) (m : List Int) : List Bool := (List.range (bins F)).map fun b => (alls F.length).all fun A => (alls (bins F)).all fun B => !shutB F m A B || B.getD b false
theorem rL_len (F : List (List Bool)) (m : List Int) : (rL F m).length = F.length := by simp [rL]
theorem rB_len (F : List (List Bool)) (m : List Int) : (rB F m).length = bins F := by simp [rB]
theorem rL_iff {F : List (List Bool)} {m : List Int} {l : Nat} (hl : l < F.length) : (rL F m).getD l false = true ↔ ∀ A B : List Bool, A.length = F.length → B.length = bins F → Shut F m A B → A.getD l false = true := by
  have e : (rL F m).getD l false = (alls F.length).all fun A => (alls (bins F)).all fun B => !shutB F m A B || A.getD l false := by simp [rL, hl]
  rw [e]
  simp only [List.all_eq_true, Bool.or_eq_true, Bool.not_eq_true']
  constructor
  · intro h A B hA hB hS
    rcases h A (hA ▸ mem_alls A) B (hB ▸ mem_alls B) with c | c
    · rw [shutB_iff.2 hS] at c; cases c
    · exact c
  · intro h A hA B hB
    cases c : shutB F m A B
    · exact Or.inl rfl
    · exact Or.inr (h A B (alls_len hA) (alls_len hB) (shutB_iff.1 c))
theorem rB_iff {F : List (List Bool)} {m : List Int} {b : Nat} (hb : b < bins F) : (rB F m).getD b false = true ↔ ∀ A B : List Bool, A.length = F.length → B.length = bins F → Shut F m A B → B.getD b false = true := by
  have e : (rB F m).getD b false = (alls F.length).all fun A => (alls (bins F)).all fun B => !shutB F m A B || B.getD b false := by simp [rB, hb]
  rw [e]
  simp only [List.all_eq_true, Bool.or_eq_true, Bool.not_eq_true']
  constructor
  · intro h A B hA hB hS
    rcases h A (hA ▸ mem_alls A) B (hB ▸ mem_alls B) with c | c
    · rw [shutB_iff.2 hS] at c; cases c
    · exact c
  · intro h A hA B hB
    cases c : shutB F m A B
    · exact Or.inl rfl
    · exact Or.inr (h A B (alls_len hA) (alls_len hB) (shutB_iff.1 c))
theorem shut_r (F : List (List Bool)) (m : List Int) : Shut F m (rL F m) (rB F m) := by
  intro l hl
  refine ⟨fun e => (rL_iff hl).2 fun A B _ _ hS => (hS l hl).1 e, fun b hb => ⟨fun h1 h2 => (rB_iff hb).2 fun A B hA hB hS => ((hS l hl).2 b hb).1 ((rL_iff hl).1 h1 A B hA hB hS) h2, fun h1 h2 => (rL_iff hl).2 fun A B hA hB hS => ((hS l hl).2 b hb).2 ((rB_iff hb).1 h1 A B hA hB hS) h2⟩⟩
/-- What is come to at most. -/
def Come (F : List (List Bool)) (m : List Int) (A B : List Bool) : Prop := A.length = F.length ∧ B.length = bins F ∧ (∀ l, l < F.length → A.getD l false = true → (rL F m).getD l false = true) ∧ ∀ b, b < bins F → B.getD b false = true → (rB F m).getD b false = true
theorem bext {a b : List Bool} (hl : a.length = b.length) (h : ∀ i, i < a.length → (a.getD i false = true ↔ b.getD i false = true)) : a = b := by
  apply List.ext_getElem hl
  intro i h1 h2
  have := h i h1
  simp [h1, h2] at this
  exact this
theorem come_eq {F : List (List Bool)} {m : List Int} {A B : List Bool} (h : Come F m A B) (hS : Shut F m A B) : A = rL F m ∧ B = rB F m := by
  obtain ⟨h1, h2, h3, h4⟩ := h
  refine ⟨bext (by rw [h1, rL_len]) fun i hi => ⟨h3 i (by omega), fun e => (rL_iff (by omega)).1 e A B h1 h2 hS⟩, bext (by rw [h2, rB_len]) fun i hi => ⟨h4 i (by omega), fun e => (rB_iff (by omega)).1 e A B h1 h2 hS⟩⟩
/-- A bin come to has a load. -/
theorem Inv.owned {F : List (List Bool)} {m own : List Int} (h : Inv F F.length m own) {b : Nat} (hb : b < bins F) (hr : (rB F m).getD b false = true) : ∃ l : Nat, l < F.length ∧ own.getD b (-1) = (l : Int) ∧ m.getD l (-1) = (b : Int) := by
  obtain ⟨R, hR, hU⟩ := h.clo
  have key : 0 ≤ own.getD b (-1) := by
    apply Classical.byContradiction
    intro hn
    -- the bins of R, and the loads that fit nothing outside
    have dec : ∀ (P : Nat → Prop) (n : Nat), ∃ L : List Bool, L.length = n ∧ ∀ i, i < n → (L.getD i false = true ↔ P i) := by
      intro P n
      induction n with
      | zero => exact ⟨[], rfl, fun i hi => by omega⟩
      | succ n ih =>
        obtain ⟨L, hL, hP⟩ := ih
        rcases Classical.em (P n) with hp | hp
        · refine ⟨L ++ [true], by simp [hL], fun i hi => ?_⟩
          by_cases e : i = n
          · subst e; simp [← hL]; simpa [hL] using hp
          · have := hP i (by omega)
            have hi' : i < L.length := by omega
            simpa [List.getElem?_append, hi'] using this
        · refine ⟨L ++ [false], by simp [hL], fun i hi => ?_⟩
          by_cases e : i = n
          · subst e; simp [← hL]; simpa [hL] using hp
          · have := hP i (by omega)
            have hi' : i < L.length := by omega
            simpa [List.getElem?_append, hi'] using this
    obtain ⟨B, hB, hBP⟩ := dec R (bins F)
    obtain ⟨A, hA, hAP⟩ := dec (fun l => ∀ b', b' < bins F → fit F l b' = true → R b') F.length
    have hS : Shut F m A B := by
      intro l hl
      refine ⟨fun e => (hAP l hl).2 (hU l hl hl e), fun c hc => ⟨fun h1 h2 => (hBP c hc).2 ((hAP l hl).1 h1 c hc h2), fun h1 h2 => (hAP l hl).2 ?_⟩⟩
      have ho := h.mo.mo l c hl hc h2
      have := (hR c hc ((hBP c hc).1 h1)).2
      rw [ho] at this
      exact this
    have := (hBP b hb).1 ((rB_iff hb).1 hr A B hA hB hS)
    exact hn (hR b hb this).1
  rcases h.mo.om b hb with e | ⟨l, h1, h2, h3, _⟩
  · omega
  · exact ⟨l, h1, h2, h3⟩
/-- The numbers of those that are so. -/
def those (l : List Bool) (so : Bool) : List Int := ((List.range l.length).filter fun i => l.getD i false == so).map fun (i : Nat) => (i : Int)
def thoseTo (l : List Bool) (so : Bool) (k : Nat) : List Int := ((List.range k).filter fun i => l.getD i false == so).map fun (i : Nat) => (i : Int)
theorem thoseTo_step (l : List Bool) (so : Bool) (k : Nat) : thoseTo l so (k + 1) = if l.getD k false == so then thoseTo l so k ++ [(k : Int)] else thoseTo l so k := by
  unfold thoseTo
  rw [List.range_succ, List.filter_append, List.map_append]
  split <;> rename_i h
  · simp only [List.filter_cons, h, if_true, List.filter_nil]; rfl
  · simp only [List.filter_cons, h]; simp
theorem mem_those {l : List Bool} {so : Bool} {x : Int} : x ∈ those l so ↔ ∃ i : Nat, i < l.length ∧ l.getD i false = so ∧ x = (i : Int) := by
  simp only [those, List.mem_map, List.mem_filter, List.mem_range, beq_iff_eq]
  constructor
  · rintro ⟨i, ⟨h1, h2⟩, rfl⟩; exact ⟨i, h1, h2, rfl⟩
  · rintro ⟨i, h1, h2, rfl⟩; exact ⟨i, ⟨h1, h2⟩, rfl⟩
theorem those_has {l : List Bool} {so : Bool} {i : Nat} (hi : i < l.length) : (those l so).contains (i : Int) = (l.getD i false == so) := by
  rw [List.contains_eq_mem]
  rw [Bool.eq_iff_iff, decide_eq_true_iff, beq_iff_eq, mem_those]
  constructor
  · rintro ⟨j, _, h, e⟩; have : i = j := by omega
    subst this; exact h
  · exact fun h => ⟨i, hi, h, rfl⟩
theorem those_rise (l : List Bool) (so : Bool) : (those l so).Pairwise (· < ·) := by
  unfold those
  rw [List.pairwise_map]
  have : ((List.range l.length).filter fun i => l.getD i false == so).Pairwise (· < ·) := List.Pairwise.filter _ List.pairwise_lt_range
  exact this.imp fun h => by omega
theorem those_nodup (l : List Bool) (so : Bool) : (those l so).Nodup := (those_rise l so).imp fun h => by omega
/-- A rising list is told by what is in it. -/
theorem rise_ext : ∀ {a b : List Int}, a.Pairwise (· < ·) → b.Pairwise (· < ·) → (∀ x, x ∈ a ↔ x ∈ b) → a = b := fun {a b} ha hb h => by
  have p : a.Perm b := (List.perm_ext_iff_of_nodup (ha.imp fun h => by omega) (hb.imp fun h => by omega)).2 h
  exact p.eq_of_pairwise (fun x y _ _ h1 h2 => by omega) ha hb
theorem all_yes {n : Nat} {p : Nat → Bool} (h : (List.range n).all p = true) {i : Nat} (hi : i < n) : p i = true := by
  simp only [List.all_eq_true, List.mem_range] at h; exact h i hi
theorem all_of {n : Nat} {p : Nat → Bool} (h : ∀ i, i < n → p i = true) : (List.range n).all p = true := by
  simp only [List.all_eq_true, List.mem_range]; exact h
theorem all_not {n : Nat} {p : Nat → Bool} {i : Nat} (hi : i < n) (h : p i = false) : (List.range n).all p = false := by
  cases e : (List.range n).all p
  · rfl
  · rw [all_yes e hi] at h; cases h
/-- The first place of x, or -1. -/
def idx (xs : List Int) (x : Int) : Int := if xs.contains x then (xs.idxOf x : Int) else -1
theorem idx_none {xs : List Int} {x : Int} (h : ∀ j, j < xs.length → (xs.getD j 0 == x) = false) : idx xs x = -1 := by
  have : xs.contains x = false := by
    rw [List.contains_eq_mem, decide_eq_false_iff_not]
    intro hm
    obtain ⟨i, hi, rfl⟩ := List.getElem_of_mem hm
    have := h i hi
    simp [hi] at this
  unfold idx; rw [if_neg (by rw [this]; simp)]
theorem idx_at : ∀ {xs : List Int} {x : Int} {k : Nat}, k < xs.length → (xs.getD k 0 == x) = true → (∀ j, j < k → (xs.getD j 0 == x) = false) → idx xs x = (k : Int)
  | xs, x, k, hk, h, hn => by
    have hx : xs[k] = x := by simpa [hk] using h
    have hm : xs.contains x = true := by rw [List.contains_eq_mem, decide_eq_true_iff, ← hx]; exact List.getElem_mem hk
    unfold idx
    rw [if_pos hm]
    have hl : xs.idxOf x < xs.length := List.idxOf_lt_length_iff.2 (by simpa using hm)
    have e : xs[xs.idxOf x] = x := List.getElem_idxOf hl
    have h1 : ¬ xs.idxOf x < k := fun c => by have := hn _ c; simp [hl] at this
    have h2 : ¬ k < xs.idxOf x := fun c => by
      have := List.not_of_lt_findIdx c
      simp [hx] at this
    omega
theorem idx_has (xs : List Int) (x : Int) : decide (0 ≤ idx xs x) = xs.contains x := by
  unfold idx
  cases h : xs.contains x
  · rfl
  · rw [if_pos rfl]; simp
theorem MO.idx_eq {F : List (List Bool)} {m own : List Int} (h : MO F m own) {b : Nat} (hb : b < bins F) : idx m (b : Int) = own.getD b (-1) := by
  have g : ∀ j, j < m.length → m.getD j 0 = m.getD j (-1) := fun j hj => by simp [hj]
  rcases h.first hb with ⟨e, hn⟩ | ⟨l, hl, e, hm, hu⟩
  · rw [e]; exact idx_none fun j hj => by rw [g j hj]; simpa using hn j hj
  · rw [e]; refine idx_at hl (by rw [g l hl, hm]; simp) fun j hj => ?_
    rw [g j (by omega), beq_eq_false_iff_ne]
    intro c
    have := hu j (by omega) c
    omega
/-- How many are not -1. -/
def cnt (m : List Int) : Nat := (m.filter fun x => x != -1).length
def cntTo (m : List Int) (k : Nat) : Nat := cnt (m.take k)
theorem cntTo_step {m : List Int} {k : Nat} (hk : k < m.length) : cntTo m (k + 1) = cntTo m k + (if m.getD k 0 == -1 then 0 else 1) := by
  unfold cntTo cnt
  rw [List.take_add_one, List.getElem?_eq_getElem hk, Option.toList_some, List.filter_append, List.length_append, Pf.getD_lt m 0 hk]
  by_cases e : m[k] = -1 <;> simp [e]
theorem cntTo_le (m : List Int) (k : Nat) : cntTo m k ≤ m.length := by
  unfold cntTo cnt
  exact Nat.le_trans (List.length_filter_le _ _) (by simp; omega)
theorem cntTo_all (m : List Int) : cntTo m m.length = cnt m := by simp [cntTo]
def cntB (m : List Int) : Bool := decide (m.length ≤ 8) && Pf.allB m (-1) 7
def cntI (m : List Int) : Int := if cntB m then (cnt m : Int) else 0
/-- Rising numbers below many. -/
def least (l : List Int) (i : Nat) : Int := if i = 0 then 0 else l.getD (i - 1) 0 + 1
def riseAt (l : List Int) (many i : Nat) : Bool := Pf.inB (l.getD i 0) (least l i) ((many : Int) - 1)
def riseB (l : List Int) (many : Nat) : Bool := (List.range l.length).all (riseAt l many)
theorem least_nn {l : List Int} {many k : Nat} (h : ∀ i, i < k → riseAt l many i = true) : 0 ≤ least l k := by
  induction k with
  | zero => simp [least]
  | succ k ih =>
    have h1 := ih fun i hi => h i (by omega)
    have h2 := Pf.inB_yes (h k (by omega))
    simp [least]
    simp at h2
    omega
/-- Whether load i's bin is none, or fits it and is no earlier one's. -/
def matAt (F : List (List Bool)) (m : List Int) (i : Nat) : Bool := m.getD i 0 == -1 || (Pf.inB (m.getD i 0) 0 ((bins F : Int) - 1) && (fit F i (m.getD i 0).toNat && !(m.take i).contains (m.getD i 0)))
def matB (F : List (List Bool)) (m : List Int) : Bool := decide (m.length = F.length) && (List.range F.length).all (matAt F m)
theorem matB_ne {F : List (List Bool)} {m : List Int} (h : m.length ≠ F.length) : matB F m = false := by simp [matB, h]
theorem matB_len {F : List (List Bool)} {m : List Int} (h : m.length = F.length) : matB F m = (List.range F.length).all (matAt F m) := by simp [matB, h]
def imB (F : List (List Bool)) (m : List Int) : Bool := if goodB F then matB F m else false
/-- Whether load l that fits bin b is among loads, or b among bins. -/
def covAt (F : List (List Bool)) (ls bs : List Int) (l b : Nat) : Bool := !fit F l b || (ls.contains (l : Int) || bs.contains (b : Int))
def covB (F : List (List Bool)) (ls bs : List Int) : Bool := (List.range F.length).all fun l => (List.range (bins F)).all (covAt F ls bs l)
def icB (F : List (List Bool)) (ls bs : List Int) : Bool := goodB F && (riseB ls F.length && riseB bs (bins F))
def icI (F : List (List Bool)) (ls bs : List Int) : Bool := if icB F ls bs then covB F ls bs else false
/-- Rising numbers below many are at most so many. -/
theorem rise_least {l : List Int} {many : Nat} : ∀ {k : Nat}, (∀ i, i < k → riseAt l many i = true) → (k : Int) ≤ least l k
  | 0, _ => by simp [least]
  | k + 1, h => by
    have ih := rise_least (l := l) (many := many) (k := k) fun i hi => h i (by omega)
    have h2 := Pf.inB_yes (h k (by omega))
    simp only [least, Nat.add_sub_cancel, Nat.add_eq_zero_iff, Nat.one_ne_zero, and_false, if_false]
    omega
theorem riseB_len {l : List Int} {many : Nat} (h : riseB l many = true) : l.length ≤ many := by
  cases e : l.length with
  | zero => omega
  | succ k =>
    have h1 := fun i (hi : i < k + 1) => all_yes h (i := i) (by omega)
    have h2 := rise_least (k := k) fun i hi => h1 i (by omega)
    have h3 := Pf.inB_yes (h1 k (by omega))
    omega
theorem icB_len {F : List (List Bool)} {ls bs : List Int} (h : icB F ls bs = true) : ls.length ≤ 8 ∧ bs.length ≤ 8 := by
  simp only [icB, Bool.and_eq_true] at h
  obtain ⟨h1, h2, h3⟩ := h
  have := goodB_len h1; have := goodB_bins h1; have := riseB_len h2; have := riseB_len h3
  omega
end Go.Proofs.Ytnchkgblpnompaa.Ma
namespace Go.Proofs.Ytnchkgblpnompaa
open Go.RowKit

set_option maxRecDepth 100000 in
set_option maxHeartbeats 1000000 in
theorem six_any {a : Option Addr} {n c : Nat} {xs : List Int} {x : Int} {w : World} (hx : xs.length = n) (hn : n ≤ 1048576) (ha : ARow w a xs) :
    Calls Try.prog 72 #[.slice a n c, .int .i64 x] w fun e w' => e = .returned (.int .i64 (Ma.idx xs x)) ∧ w' = w := by
  have HA := hide ha
  have HX := hide hx
  clear ha hx
  go_enter Try.func72, Try.ntmps72
  go_wp2_with fail
  go_loop [4, 5, 8] (fun s4 _ s => ∃ (k : Nat), s4 = .int .i64 0 ∧ s = .int .i64 k ∧ k ≤ n ∧ Hid (∀ j, j < k → (xs.getD j 0 == x) = false)) (fun _ _ s => n - (intOf s).toNat)
  case atStart => exact ⟨0, rfl, rfl, Nat.zero_le _, hide fun i hi => absurd hi (Nat.not_lt_zero _)⟩
  case round =>
    obtain ⟨k, rfl, rfl, hk, HK⟩ := hrel
    by_cases hlt : k < n
    · obtain ⟨b, off, rfl, r1⟩ := HA.out.at (i := k) (by rw [HX.out]; exact hlt)
      have i0 : (0 : Int) ≤ (k : Int) := by omega
      have i1 : (k : Int) < (n : Int) := by omega
      have HY := hide fun (h : (xs.getD k 0 == x) = true) => Ma.idx_at (show k < xs.length by rw [HX.out]; exact hlt) h HK.out
      generalize hy : xs.getD k 0 = y at *
      cases hb : (y == x)
      · have hb' : (x == y) = false := by rw [beq_eq_false_iff_ne] at hb ⊢; exact fun e => hb e.symm
        have H1 : Hid (∀ j, j < k + 1 → (xs.getD j 0 == x) = false) := hide fun j hj => by
          by_cases e : j = k
          · subst e; rw [hy]; exact hb
          · exact HK.out j (by omega)
        clear hy
        go_wp2_with fail
        go_round
        case rel => exact ⟨k + 1, rfl, by go_num, by omega, H1⟩
        case measure => simp only [intOf]; omega
      · have hb' : (x == y) = true := by rw [beq_iff_eq] at hb ⊢; exact hb.symm
        have H1 := hide (HY.out hb)
        clear hy
        go_wp2_with fail
        go_ret
        exact ⟨ret_int H1.out.symm, rfl⟩
    · have hke : k = n := by omega
      subst hke
      have H1 := hide (Ma.idx_none (xs := xs) (x := x) (by rw [HX.out]; exact HK.out))
      go_wp2_with fail
      go_ret
      exact ⟨ret_int H1.out.symm, rfl⟩
set_option maxRecDepth 100000 in
set_option maxHeartbeats 1000000 in
theorem scon_any {a : Option Addr} {n c : Nat} {xs : List Int} {x : Int} {w : World} (hx : xs.length = n) (hn : n ≤ 1048576) (ha : ARow w a xs) :
    Calls Try.prog 66 #[.slice a n c, .int .i64 x] w fun e w' => e = .returned (.bool (xs.contains x)) ∧ w' = w := by
  have HC := hide (six_any (c := c) (x := x) hx hn ha)
  have HE := hide (Ma.idx_has xs x)
  generalize Ma.idx xs x = q at *
  clear ha hx
  go_enter Try.func66, Try.ntmps66
  go_wp2_with fail
  refine HC.out.mono ?_
  rintro e w1 ⟨rfl, rfl⟩
  go_wp2_with fail
  go_ret
  exact ⟨ret_bool HE.out, rfl⟩
theorem scon_eq {a : Option Addr} {n c : Nat} {xs : List Int} {x : Int} {w : World} {r : Bool} (hx : Hid (xs.length = n)) (hn : n ≤ 1048576) (ha : Hid (ARow w a xs)) (h : Hid (xs.contains x = r)) :
    Calls Try.prog 66 #[.slice a n c, .int .i64 x] w fun e w' => e = .returned (.bool r) ∧ w' = w := h.out ▸ scon_any hx.out hn ha.out
theorem push_set {w : World} {base n : Nat} {v : Value} {xs : List Value} {x : Int} (hown : w.ownsRow base 3 1 v n xs) (hn : n ≤ 100000) (hb : base ≤ w.heap.size) :
    ∃ v' w', (∀ ty, (Builtin.append_ #[71, 71] ty #[v, .slice (some ⟨w.heap.size, 0, none⟩) 1 1]).run Try.prog (w.alloc (.cells #[.int .i64 x] 3)) = .ok v' w') ∧ w'.ownsRow base 3 1 v' (n + 1) (xs ++ [.int .i64 x]) ∧ w.grownBy w' v.ownBlock := by
  obtain ⟨i0, hi, hz0, hz1, hz2⟩ := infoI
  obtain ⟨v', w', h1, h2, h3⟩ := run_append_v (P := Try.prog) (w.alloc (.cells #[.int .i64 x] 3)) base 71 0 3 i0 _ 8 Try.underlying71 hi hz0 hz1 hz2 rfl v n xs (hown.alloc _) (some ⟨w.heap.size, 0, none⟩) 1 1 [.int .i64 x] rfl (vrow_new w _ 3) (fun u hu => by simp at hu; subst hu; rfl) (by unfold maxLen; omega) (by omega) (by simp; omega)
  refine ⟨v', w', fun _ => h1, h2, ?_⟩
  exact ⟨h3.os, h3.tape, h3.output, Nat.le_trans (by simp) h3.size, fun b hbs he => (h3.block b (by simp; omega) he).trans ((below_alloc w _).block b hbs)⟩
/-- A set of ints in a variable: its list lies from B on. -/
def SI (W : World) (P B : Nat) (xs : List Int) : Prop := P < B ∧ B ≤ W.heap.size ∧ ∃ v, W.cell? ⟨P, 0, none⟩ = some v ∧ W.frozen? ⟨P, 0, none⟩ = false ∧ W.ownsRow B 3 1 v xs.length (ints xs)
set_option maxRecDepth 100000 in
set_option maxHeartbeats 1000000 in
theorem add_any {P B : Nat} {xs : List Int} {x : Int} {w : World} (h : SI w P B xs) (hn : xs.length ≤ 1000) :
    Calls Try.prog 56 #[.pointer (some ⟨P, 0, none⟩), .int .i64 x] w fun e w' => e = .returned (.bool (!xs.contains x)) ∧ SI w' P B (if xs.contains x then xs else xs ++ [x]) ∧ Below P w w' := by
  obtain ⟨hP, hB, v, c0, f0, own⟩ := h
  obtain ⟨a, c, rfl, ra⟩ := own_row rfl own
  generalize hn' : xs.length = n at *
  have HX := hide hn'
  have HA := hide ra
  cases hc : xs.contains x
  · obtain ⟨v', w', hr, own', hg⟩ := push_set (x := x) own (by omega) hB
    obtain ⟨a', c', rfl⟩ := own_form own'
    have HC := hide hc
    have hfar : ∀ b, b < B → w'.heap[b]? = w.heap[b]? := fun b hb => hg.block b (by omega) (fun e => by have := (own.lt b e.symm).1; omega)
    have c1 : w'.cell? ⟨P, 0, none⟩ = some (.slice a n c) := (World.cell?_of_block (a := ⟨P, 0, none⟩) (hfar P hP)).trans c0
    have f1 : w'.frozen? ⟨P, 0, none⟩ = false := (World.frozen?_of_block (a := ⟨P, 0, none⟩) (hfar P hP)).trans f0
    have hb1 : Below P w w' := ⟨hg.os, hg.tape, hg.output, hg.size, fun b hb => hfar b (by omega)⟩
    have HO : Hid (SI (w'.setCell ⟨P, 0, none⟩ (.slice a' (n + 1) c')) P B (xs ++ [x])) := hide (by
      refine ⟨hP, by simpa using Nat.le_trans hB hg.size, _, World.cell?_setCell_same _ _ _ c1, ?_, ?_⟩
      · rw [World.frozen?_setCell]; exact f1
      · rw [List.length_append, hn', ints_snoc]
        refine own_keep own' fun g hv _ => ?_
        have hg' := (own'.lt g hv).1
        exact Below.heap_setCell _ ⟨P, 0, none⟩ _ g (by show g ≠ P; omega))
    have HB := hide (hb1.setCell (p := ⟨P, 0, none⟩) (Nat.le_refl _) (.slice a' (n + 1) c'))
    have hc0 : (w.alloc (.cells #[.int .i64 x] 3)).cell? ⟨P, 0, none⟩ = some (.slice a n c) := ((below_alloc w _).cell (p := ⟨P, 0, none⟩) (by show P < _; omega)).trans c0
    clear hc hn' ra own own' hg hb1 hfar
    go_enter Try.func56, Try.ntmps56
    go_wp2_with fail
    refine (scon_eq HX (by omega) HA HC).mono ?_
    rintro e w1 ⟨rfl, rfl⟩
    go_wp2_with (at_builtin; refine Lib.wpList_append_run _ rfl _ _ _ _ rfl _ _ rfl rfl _ _ (hr _) ?_)
    go_ret
    exact ⟨rfl, HO.out, HB.out⟩
  · have HC := hide hc
    have HO : Hid (SI w P B xs) := hide ⟨hP, hB, _, c0, f0, by rw [hn']; exact own⟩
    clear hc hn' ra own
    go_enter Try.func56, Try.ntmps56
    go_wp2_with fail
    refine (scon_eq HX (by omega) HA HC).mono ?_
    rintro e w1 ⟨rfl, rfl⟩
    go_wp2_with fail
    go_ret
    exact ⟨rfl, HO.out, Below.refl _ _⟩
end Go.Proofs.Ytnchkgblpnompaa
namespace Go.Proofs.Ytnchkgblpnompaa
open Go.RowKit

theorem grt {a b c : World} {r : Option Nat} (h : a.grownBy b r) (k : b.grownBy c r) : a.grownBy c r :=
  ⟨k.os.trans h.os, k.tape.trans h.tape, k.output.trans h.output, Nat.le_trans h.size k.size, fun x hx hne => (k.block x (Nat.lt_of_lt_of_le hx h.size) hne).trans (h.block x hx hne)⟩
theorem grb {a b c : World} {r : Option Nat} (h : a.grownBy b r) (k : Below a.heap.size b c) : a.grownBy c r :=
  ⟨k.os.trans h.os, k.tape.trans h.tape, k.output.trans h.output, Nat.le_trans h.size k.size, fun x hx hne => (k.block x hx).trans (h.block x hx hne)⟩
theorem SI.grown {w w' : World} {P B G : Nat} {xs : List Int} (h : SI w P B xs) (hg : w.grownBy w' (some G)) (hG : G < P) : SI w' P B xs := by
  obtain ⟨h1, h2, v, c0, f0, own⟩ := h
  have hp : w'.heap[P]? = w.heap[P]? := hg.block P (by omega) (by simp; omega)
  refine ⟨h1, Nat.le_trans h2 hg.size, v, (World.cell?_of_block (a := ⟨P, 0, none⟩) hp).trans c0, (World.frozen?_of_block (a := ⟨P, 0, none⟩) hp).trans f0, own_keep own fun g hv hl => ?_⟩
  have := (own.lt g hv).1
  exact hg.block g hl (by simp; omega)
/-- Items in a block other than B. -/
def FRX (B : Nat) (w : World) (a : Option Addr) (L : List (Int × Int)) : Prop :=
  L = [] ∨ ∃ b o, a = some ⟨b, o, none⟩ ∧ b < w.heap.size ∧ b ≠ B ∧ ∀ i, i < L.length → w.cell? ⟨b, o + i * 2, none⟩ = some (.int .i64 (L.getD i (0, 0)).1) ∧ w.cell? ⟨b, o + i * 2 + 1, none⟩ = some (.int .i64 (L.getD i (0, 0)).2)
theorem FRX.grown {B : Nat} {w w' : World} {a : Option Addr} {L : List (Int × Int)} (h : FRX B w a L) (hg : w.grownBy w' (some B)) : FRX B w' a L := by
  rcases h with h | ⟨b, o, rfl, hb, hne, hc⟩
  · exact Or.inl h
  · have hk : w'.heap[b]? = w.heap[b]? := hg.block b hb (by simp; exact hne)
    exact Or.inr ⟨b, o, rfl, Nat.lt_of_lt_of_le hb hg.size, hne, fun i hi => ⟨(World.cell?_of_block (a := ⟨b, o + i * 2, none⟩) hk).trans (hc i hi).1, (World.cell?_of_block (a := ⟨b, o + i * 2 + 1, none⟩) hk).trans (hc i hi).2⟩⟩
theorem FRX.head {B : Nat} {w : World} {a : Option Addr} {x : Int × Int} {t : List (Int × Int)} (h : FRX B w a (x :: t)) : ∃ b o, a = some ⟨b, o, none⟩ ∧ w.cell? ⟨b, o + 1, none⟩ = some (.int .i64 x.2) ∧ FRX B w (some ⟨b, o + 2, none⟩) t := by
  rcases h with h | ⟨b, o, rfl, hb, hne, hc⟩
  · cases h
  · refine ⟨b, o, rfl, ?_, ?_⟩
    · have := (hc 0 (by simp)).2
      simpa using this
    · cases t with
      | nil => exact Or.inl rfl
      | cons y t =>
        refine Or.inr ⟨b, o + 2, rfl, hb, hne, fun i hi => ?_⟩
        have := hc (i + 1) (by simpa using hi)
        rw [show o + (i + 1) * 2 = o + 2 + i * 2 by omega, List.getD_cons_succ] at this
        exact this
theorem FRow.far {w : World} {a : Option Addr} {L : List (Int × Int)} {B : Nat} (h : FRow w a L) (hB : w.heap.size ≤ B) : FRX B w a L := by
  rcases h with h | ⟨b, o, rfl, hb, hc⟩
  · exact Or.inl h
  · exact Or.inr ⟨b, o, rfl, hb, by omega, hc⟩
theorem FRX.below {B : Nat} {w w' : World} {a : Option Addr} {L : List (Int × Int)} (h : FRX B w a L) (hg : Below w.heap.size w w') : FRX B w' a L := h.grown ⟨hg.os, hg.tape, hg.output, hg.size, fun b hb _ => hg.block b hb⟩
theorem si_new2 (w : World) (t : TypeId) : SI (w.alloc (.cells #[.slice none 0 0] t)) w.heap.size (w.heap.size + 1) [] := by
  refine ⟨by omega, by simp, .slice none 0 0, by simp, ?_, ⟨rfl, Or.inl ⟨rfl, rfl⟩⟩⟩
  simp [go_sem]
theorem set_back {rs : List Int} {k : Nat} {x : Int} : (rs.set k x).set k (rs.getD k 0) = rs := by
  rw [List.set_set]
  apply List.ext_getElem?
  intro j
  rw [List.getElem?_set]
  split
  · rename_i h; subst h
    split
    · rename_i h; simp [h]
    · rename_i h; rw [List.getElem?_eq_none (by omega)]
  · rfl
def CFP (B cB N base : Nat) (L : List (Int × Int)) : Prop := ∀ (a : Option Addr) (n c : Nat) (rs : List Int) (w : World), L.length = n → n ≤ 1000 → n ≤ c → (∀ x ∈ L, 1 ≤ x.2 ∧ x.2 ≤ 20) → rs.length = N → N ≤ 900 → It.PosL rs → (∀ b, b < N → rs.getD b 0 ≤ 20) → FRX B w a L → w.ownsRow base 3 1 (.slice (some ⟨B, 0, none⟩) N cB) N (ints rs) →
    Calls Try.prog 34 #[.slice a n c, .slice (some ⟨B, 0, none⟩) N cB] w fun e w' => e = .returned (.bool (It.canB (L.map Prod.snd) rs)) ∧ w'.ownsRow base 3 1 (.slice (some ⟨B, 0, none⟩) N cB) N (ints rs) ∧ w.grownBy w' (some B)
set_option maxRecDepth 100000 in
set_option maxHeartbeats 4000000 in
theorem cf12 (B cB N base : Nat) (L : List (Int × Int)) : CFP B cB N base L := by
  induction L with
  | nil =>
    intro a n c rs w hl _ _ _ _ _ _ _ _ hown
    obtain rfl : n = 0 := hl.symm
    have HO := hide hown
    clear hown hl
    go_enter Try.func34, Try.ntmps34
    go_wp2_with fail
    go_ret
    exact ⟨rfl, HO.out, World.grownBy.refl _ _⟩
  | cons x t ih =>
    have IH := hide ih
    clear ih
    intro a n c rs w hl hn hnc hb hN hN9 hp hbd hrow hown
    have HSZ := hide (fun y (hy : y ∈ t) => hb y (by simp [hy]))
    have HPT : Hid (∀ y ∈ t.map Prod.snd, 0 ≤ y) := hide fun y hy => by
      obtain ⟨z, hz, rfl⟩ := List.mem_map.1 hy
      have := hb z (by simp [hz]); omega
    obtain ⟨s1, s2⟩ := hb x (by simp)
    obtain ⟨b, o, rfl, q0, htail⟩ := hrow.head
    have hBl : B < w.heap.size := (hown.lt B rfl).2
    have HT := hide htail
    obtain ⟨R, hR⟩ : ∃ R, It.canB ((x :: t).map Prod.snd) rs = R := ⟨_, rfl⟩
    rw [hR]
    have HR : Hid (It.canB (x.2 :: t.map Prod.snd) rs = R) := hide hR
    have HN := hide hN
    have HP := hide hp
    have HBD := hide hbd
    have HO := hide hown
    obtain ⟨P, hP⟩ : ∃ P, w.heap.size = P := ⟨_, rfl⟩
    have HS0 : Hid (SI (w.alloc (.cells #[.slice none 0 0] 71)) P (P + 1) []) := hide (by rw [← hP]; exact si_new2 w _)
    have HB0 := hide (below_alloc w (.cells #[.slice none 0 0] 71))
    have HPP := hide hP
    have hn1 : 1 ≤ n := by rw [← hl]; simp
    have HLT : Hid (t.length = n - 1) := hide (by rw [← hl]; simp)
    have c1 : (1 : Int) ≤ (n : Int) := by omega
    have c0 : ((n : Int) == 0) = false := by simp; omega
    have c2 : (0 : Int) < (n : Int) := by omega
    rw [hP] at hBl
    generalize x.2 = s at *
    clear hl hb hN hp hbd hrow hown htail hR hP
    by_cases hc1 : c = 1
    · subst hc1
      have HT0 : Hid (FRX B w (some ⟨b, o, none⟩) t) := hide (Or.inl (List.length_eq_zero_iff.1 (by rw [HLT.out]; omega)))
      go_enter Try.func34, Try.ntmps34
      go_wp2_with fail
      rw [HPP.out]
      go_loopw [4, 7, 8, 9, 19] (fun s4 _ _ _ s19 wr => ∃ (k : Nat) (tr : List Int), s4 = .bool false ∧ s19 = .int .i64 k ∧ k ≤ N ∧ Hid (It.CS s (t.map Prod.snd) rs k tr) ∧ Hid (SI wr P (P + 1) tr) ∧ Hid (wr.ownsRow base 3 1 (.slice (some ⟨B, 0, none⟩) N cB) N (ints rs)) ∧ Hid (w.grownBy wr (some B))) (fun _ _ _ _ s19 _ => N - (intOf s19).toNat)
      case atStart => exact ⟨0, [], rfl, rfl, Nat.zero_le _, hide (It.cs_start _ _ _), HS0, hide (HO.out.alloc _), hide (World.grownBy_alloc _ _ _)⟩
      case round =>
        clear HS0 HB0 q0
        obtain ⟨k, tr, rfl, rfl, hk, HCS, HSI, HOW, HG⟩ := hrel
        by_cases hlt : k < N
        · have i0 : (0 : Int) ≤ (k : Int) := by omega
          have i1 : (k : Int) < (N : Int) := by omega
          have q1 : wr.cell? ⟨B, k, none⟩ = some (.int .i64 (rs.getD k 0)) := by rw [HOW.out.cellAt k (by omega), ints_get rs k (by rw [HN.out]; exact hlt)]
          have q2 := HOW.out.frozenAt k
          have hr0 := HP.out k (by rw [HN.out]; exact hlt)
          have hr1 := HBD.out k hlt
          have hfw := HCS.out.few
          by_cases hrs : rs.getD k 0 < s
          · have H1 := hide (HCS.out.small (by omega))
            generalize rs.getD k 0 = r at *
            clear HCS
            go_wp2_with fail
            go_roundw
            case rel => exact ⟨k + 1, tr, rfl, by go_num, by omega, H1, HSI, HOW, HG⟩
            case measure => simp only [intOf]; omega
          · have hsr : s ≤ rs.getD k 0 := by omega
            have HAD := hide (add_any (x := rs.getD k 0) HSI.out (by omega))
            cases hc : tr.contains (rs.getD k 0)
            · rw [hc] at HAD
              have HNX := hide fun h => HCS.out.next hsr h
              have HYS := hide fun h => It.CS.yes (s := s) (t := t.map Prod.snd) (R := rs) (k := k) (by rw [HN.out]; exact hlt) hsr h
              have HPS := hide (HP.out.set (i := k) (s := s) (by rw [HN.out]; exact hlt) hsr)
              have HSL : Hid ((rs.set k (rs.getD k 0 - s)).length = N) := hide (by rw [List.length_set]; exact HN.out)
              have HSB : Hid (∀ b, b < N → (rs.set k (rs.getD k 0 - s)).getD b 0 ≤ 20) := hide fun b hb => by
                rw [It.getD_set (by rw [HN.out]; exact hlt)]
                split
                · omega
                · exact HBD.out b hb
              have HBK : Hid (∀ y, (rs.set k y).set k (rs.getD k 0) = rs) := hide fun y => set_back
              generalize hrr : rs.getD k 0 = r at *
              have hws : IntKind.i64.wrap (r - s) = r - s := by rw [IntKind.wrap_i64]; omega
              clear HCS hc hrr
              go_wp2_with fail
              refine HAD.out.mono ?_
              rintro e w2 ⟨rfl, hs2, hb2⟩
              have hb2' : Below w.heap.size wr w2 := HPP.out.symm ▸ hb2
              have HG2 := hide (grb HG.out hb2')
              have own2 := own_keep HOW.out fun g hv hl => by
                obtain rfl : B = g := by simpa [Value.ownBlock] using hv
                exact hb2.block B hBl
              have q3 : w2.cell? ⟨B, k, none⟩ = some (.int .i64 r) := (hb2.cell (p := ⟨B, k, none⟩) hBl).trans q1
              have q4 : w2.frozen? ⟨B, k, none⟩ = false := own2.frozenAt k
              obtain ⟨st1, st2⟩ := own2.stored k (.int .i64 (r - s))
              rw [ints_set] at st1
              have HS2 := hide (SI.grown hs2 st2 hBl)
              have HG3 := hide (grt HG2.out st2)
              have HC := hide fun (a2 : Option Addr) (n2 c2 : Nat) (h3 : t.length = n2) (h2 : n2 ≤ c2) (h : FRX B w a2 t) => IH.out a2 n2 c2 _ _ h3 (by have := HLT.out; omega) h2 HSZ.out HSL.out hN9 HPS.out HSB.out (h.grown HG3.out) st1
              have HST := hide st2
              clear HAD HOW HG HSI hs2 hb2 hb2' own2 st1 st2 q1 q2 IH HG2
              go_wp2_with fail
              refine (HC.out _ _ _ (by have := HLT.out; omega) (by omega) HT0.out).mono ?_
              rintro e w4 ⟨rfl, own4, hg4⟩
              have q5 : w4.cell? ⟨B, k, none⟩ = some (.int .i64 (r - s)) := by rw [own4.cellAt k (by omega), ints_get _ k (by rw [HSL.out]; exact hlt), It.getD_set (by rw [HN.out]; exact hlt), if_pos rfl]
              have q6 := own4.frozenAt k
              obtain ⟨st5, st6⟩ := own4.stored k (.int .i64 r)
              rw [ints_set, HBK.out] at st5
              have HS5 := hide ((HS2.out.grown hg4 hBl).grown st6 hBl)
              have HG5 := hide (grt HG3.out (grt hg4 st6))
              have HO5 := hide st5
              clear own4 hg4 st5 st6 HS2 HG3 HC HST
              cases hcan : It.canB (t.map Prod.snd) (rs.set k (r - s))
              · have H1 := hide (HNX.out hcan)
                go_wp2_with fail
                go_roundw
                case rel => exact ⟨k + 1, tr ++ [r], rfl, by go_num, by omega, H1, HS5, HO5, HG5⟩
                case measure => simp only [intOf]; omega
              · have H1 := hide (HYS.out hcan)
                go_wp2_with fail
                go_ret
                exact ⟨ret_bool (by rw [← HR.out, H1.out]), HO5.out, HG5.out⟩
            · rw [hc] at HAD
              have H1 := hide (HCS.out.again HPT.out HP.out (by rw [HN.out]; exact hlt) hsr hc)
              generalize rs.getD k 0 = r at *
              clear HCS hc
              go_wp2_with fail
              refine HAD.out.mono ?_
              rintro e w2 ⟨rfl, hs2, hb2⟩
              have hb2' : Below w.heap.size wr w2 := HPP.out.symm ▸ hb2
              have HG2 := hide (grb HG.out hb2')
              have HS2 := hide hs2
              have HO2 := hide (own_keep HOW.out fun g hv hl => by
                obtain rfl : B = g := by simpa [Value.ownBlock] using hv
                exact hb2.block B hBl)
              clear HAD hs2 hb2 hb2' HOW HG HSI
              go_wp2_with fail
              go_roundw
              case rel => exact ⟨k + 1, tr, rfl, by go_num, by omega, H1, HS2, HO2, HG2⟩
              case measure => simp only [intOf]; omega
        · have hke : k = N := by omega
          subst hke
          have HE := hide (HCS.out.none (by rw [HN.out]; exact Nat.le_refl _))
          go_wp2_with fail
          go_ret
          exact ⟨ret_bool (by rw [← HR.out, HE.out]), HOW.out, HG.out⟩
    · have hc2 : ¬ c - 1 = 0 := by omega
      go_enter Try.func34, Try.ntmps34
      go_wp2_with fail
      rw [HPP.out]
      go_loopw [4, 7, 8, 9, 19] (fun s4 _ _ _ s19 wr => ∃ (k : Nat) (tr : List Int), s4 = .bool false ∧ s19 = .int .i64 k ∧ k ≤ N ∧ Hid (It.CS s (t.map Prod.snd) rs k tr) ∧ Hid (SI wr P (P + 1) tr) ∧ Hid (wr.ownsRow base 3 1 (.slice (some ⟨B, 0, none⟩) N cB) N (ints rs)) ∧ Hid (w.grownBy wr (some B))) (fun _ _ _ _ s19 _ => N - (intOf s19).toNat)
      case atStart => exact ⟨0, [], rfl, rfl, Nat.zero_le _, hide (It.cs_start _ _ _), HS0, hide (HO.out.alloc _), hide (World.grownBy_alloc _ _ _)⟩
      case round =>
        clear HS0 HB0 q0
        obtain ⟨k, tr, rfl, rfl, hk, HCS, HSI, HOW, HG⟩ := hrel
        by_cases hlt : k < N
        · have i0 : (0 : Int) ≤ (k : Int) := by omega
          have i1 : (k : Int) < (N : Int) := by omega
          have q1 : wr.cell? ⟨B, k, none⟩ = some (.int .i64 (rs.getD k 0)) := by rw [HOW.out.cellAt k (by omega), ints_get rs k (by rw [HN.out]; exact hlt)]
          have q2 := HOW.out.frozenAt k
          have hr0 := HP.out k (by rw [HN.out]; exact hlt)
          have hr1 := HBD.out k hlt
          have hfw := HCS.out.few
          by_cases hrs : rs.getD k 0 < s
          · have H1 := hide (HCS.out.small (by omega))
            generalize rs.getD k 0 = r at *
            clear HCS
            go_wp2_with fail
            go_roundw
            case rel => exact ⟨k + 1, tr, rfl, by go_num, by omega, H1, HSI, HOW, HG⟩
            case measure => simp only [intOf]; omega
          · have hsr : s ≤ rs.getD k 0 := by omega
            have HAD := hide (add_any (x := rs.getD k 0) HSI.out (by omega))
            cases hc : tr.contains (rs.getD k 0)
            · rw [hc] at HAD
              have HNX := hide fun h => HCS.out.next hsr h
              have HYS := hide fun h => It.CS.yes (s := s) (t := t.map Prod.snd) (R := rs) (k := k) (by rw [HN.out]; exact hlt) hsr h
              have HPS := hide (HP.out.set (i := k) (s := s) (by rw [HN.out]; exact hlt) hsr)
              have HSL : Hid ((rs.set k (rs.getD k 0 - s)).length = N) := hide (by rw [List.length_set]; exact HN.out)
              have HSB : Hid (∀ b, b < N → (rs.set k (rs.getD k 0 - s)).getD b 0 ≤ 20) := hide fun b hb => by
                rw [It.getD_set (by rw [HN.out]; exact hlt)]
                split
                · omega
                · exact HBD.out b hb
              have HBK : Hid (∀ y, (rs.set k y).set k (rs.getD k 0) = rs) := hide fun y => set_back
              generalize hrr : rs.getD k 0 = r at *
              have hws : IntKind.i64.wrap (r - s) = r - s := by rw [IntKind.wrap_i64]; omega
              clear HCS hc hrr
              go_wp2_with fail
              refine HAD.out.mono ?_
              rintro e w2 ⟨rfl, hs2, hb2⟩
              have hb2' : Below w.heap.size wr w2 := HPP.out.symm ▸ hb2
              have HG2 := hide (grb HG.out hb2')
              have own2 := own_keep HOW.out fun g hv hl => by
                obtain rfl : B = g := by simpa [Value.ownBlock] using hv
                exact hb2.block B hBl
              have q3 : w2.cell? ⟨B, k, none⟩ = some (.int .i64 r) := (hb2.cell (p := ⟨B, k, none⟩) hBl).trans q1
              have q4 : w2.frozen? ⟨B, k, none⟩ = false := own2.frozenAt k
              obtain ⟨st1, st2⟩ := own2.stored k (.int .i64 (r - s))
              rw [ints_set] at st1
              have HS2 := hide (SI.grown hs2 st2 hBl)
              have HG3 := hide (grt HG2.out st2)
              have HC := hide fun (a2 : Option Addr) (n2 c2 : Nat) (h3 : t.length = n2) (h2 : n2 ≤ c2) (h : FRX B w a2 t) => IH.out a2 n2 c2 _ _ h3 (by have := HLT.out; omega) h2 HSZ.out HSL.out hN9 HPS.out HSB.out (h.grown HG3.out) st1
              have HST := hide st2
              clear HAD HOW HG HSI hs2 hb2 hb2' own2 st1 st2 q1 q2 IH HG2
              go_wp2_with fail
              refine (HC.out _ _ _ HLT.out (by omega) HT.out).mono ?_
              rintro e w4 ⟨rfl, own4, hg4⟩
              have q5 : w4.cell? ⟨B, k, none⟩ = some (.int .i64 (r - s)) := by rw [own4.cellAt k (by omega), ints_get _ k (by rw [HSL.out]; exact hlt), It.getD_set (by rw [HN.out]; exact hlt), if_pos rfl]
              have q6 := own4.frozenAt k
              obtain ⟨st5, st6⟩ := own4.stored k (.int .i64 r)
              rw [ints_set, HBK.out] at st5
              have HS5 := hide ((HS2.out.grown hg4 hBl).grown st6 hBl)
              have HG5 := hide (grt HG3.out (grt hg4 st6))
              have HO5 := hide st5
              clear own4 hg4 st5 st6 HS2 HG3 HC HST
              cases hcan : It.canB (t.map Prod.snd) (rs.set k (r - s))
              · have H1 := hide (HNX.out hcan)
                go_wp2_with fail
                go_roundw
                case rel => exact ⟨k + 1, tr ++ [r], rfl, by go_num, by omega, H1, HS5, HO5, HG5⟩
                case measure => simp only [intOf]; omega
              · have H1 := hide (HYS.out hcan)
                go_wp2_with fail
                go_ret
                exact ⟨ret_bool (by rw [← HR.out, H1.out]), HO5.out, HG5.out⟩
            · rw [hc] at HAD
              have H1 := hide (HCS.out.again HPT.out HP.out (by rw [HN.out]; exact hlt) hsr hc)
              generalize rs.getD k 0 = r at *
              clear HCS hc
              go_wp2_with fail
              refine HAD.out.mono ?_
              rintro e w2 ⟨rfl, hs2, hb2⟩
              have hb2' : Below w.heap.size wr w2 := HPP.out.symm ▸ hb2
              have HG2 := hide (grb HG.out hb2')
              have HS2 := hide hs2
              have HO2 := hide (own_keep HOW.out fun g hv hl => by
                obtain rfl : B = g := by simpa [Value.ownBlock] using hv
                exact hb2.block B hBl)
              clear HAD hs2 hb2 hb2' HOW HG HSI
              go_wp2_with fail
              go_roundw
              case rel => exact ⟨k + 1, tr, rfl, by go_num, by omega, H1, HS2, HO2, HG2⟩
              case measure => simp only [intOf]; omega
        · have hke : k = N := by omega
          subst hke
          have HE := hide (HCS.out.none (by rw [HN.out]; exact Nat.le_refl _))
          go_wp2_with fail
          go_ret
          exact ⟨ret_bool (by rw [← HR.out, HE.out]), HOW.out, HG.out⟩
end Go.Proofs.Ytnchkgblpnompaa
namespace Go.Proofs.Ytnchkgblpnompaa
open Go.RowKit

theorem neq_at {b : List (Int × Int)} {x : Int × Int} (h : ¬ x ∈ b) {k : Nat} (hk : k < b.length) : ¬ (x.1 = (b.getD k (0, 0)).1 ∧ x.2 = (b.getD k (0, 0)).2) := fun e => h (by
  have : b.getD k (0, 0) ∈ b := by simp [hk]
  have e2 : x = b.getD k (0, 0) := Prod.ext e.1 e.2
  rw [e2]; exact this)
set_option maxRecDepth 100000 in
set_option maxHeartbeats 2000000 in
theorem ixT_no {a : Option Addr} {n c : Nat} {b : List (Int × Int)} {x y : Int} {w : World} (hb : b.length = n) (hn : n ≤ 900) (hx : ¬ (x, y) ∈ b) (ha : FRow w a b) :
    Calls Try.prog 69 #[.slice a n c, .agg #[.int .i64 x, .int .i64 y]] w fun e w' => e = .returned (.int .i64 (-1)) ∧ Below w.heap.size w w' := by
  have HB := hide hb
  have HA := hide ha
  have HX := hide hx
  have BA := hide (below_alloc w (.cells #[.int .i64 x, .int .i64 y] 61))
  clear hb ha hx
  go_enter Try.func69, Try.ntmps69
  go_wp2_with fail
  go_loopw [4, 5, 8] (fun s4 _ s8 wr => ∃ (k : Nat), s4 = .int .i64 0 ∧ s8 = .int .i64 k ∧ k ≤ n ∧ Hid (Below w.heap.size w wr) ∧ wr.cell? ⟨w.heap.size, 0, none⟩ = some (.int .i64 x) ∧ wr.cell? ⟨w.heap.size, 1, none⟩ = some (.int .i64 y)) (fun _ _ s8 _ => n - (intOf s8).toNat)
  case atStart => exact ⟨0, rfl, rfl, Nat.zero_le _, BA, by simp, by simp⟩
  case round =>
    obtain ⟨k, rfl, rfl, hk, HW, c0, c1⟩ := hrel
    by_cases hlt : k < n
    · obtain ⟨q, o, rfl, hq, r1, r2⟩ := HA.out.at (i := k) (by rw [HB.out]; exact hlt)
      have k1 := (HW.out.cell (p := ⟨q, o + k * 2, none⟩) hq).trans r1
      have k2 := (HW.out.cell (p := ⟨q, o + k * 2 + 1, none⟩) hq).trans r2
      have i0 : (0 : Int) ≤ (k : Int) := by omega
      have i1 : (k : Int) < (n : Int) := by omega
      have hne := neq_at HX.out (show k < b.length by rw [HB.out]; exact hlt)
      simp only at hne
      generalize (b.getD k (0, 0)).1 = x1 at *
      generalize (b.getD k (0, 0)).2 = x2 at *
      clear r1 r2
      by_cases e1 : x = x1
      · have e2 : ¬ y = x2 := fun e => hne ⟨e1, e⟩
        subst e1
        clear hne
        go_upto_region 4 with fail
        go_quiet (fail)
        have HW2 := hide (below_drewN HW.out nq)
        go_wp2_with fail
        go_roundw
        case rel => exact ⟨k + 1, rfl, by go_num, by omega, HW2, c0, c1⟩
        case measure => simp only [intOf]; omega
      · clear hne
        go_upto_region 4 with fail
        go_quiet (fail)
        have HW2 := hide (below_drewN HW.out nq)
        go_wp2_with fail
        go_roundw
        case rel => exact ⟨k + 1, rfl, by go_num, by omega, HW2, c0, c1⟩
        case measure => simp only [intOf]; omega
    · have hke : k = n := by omega
      subst hke
      go_wp2_with fail
      go_ret
      exact ⟨rfl, HW.out⟩
set_option maxRecDepth 100000 in
set_option maxHeartbeats 1000000 in
theorem coT_no {a : Option Addr} {n c : Nat} {b : List (Int × Int)} {x y : Int} {w : World} (hb : b.length = n) (hn : n ≤ 900) (hx : ¬ (x, y) ∈ b) (ha : FRow w a b) :
    Calls Try.prog 62 #[.slice a n c, .agg #[.int .i64 x, .int .i64 y]] w fun e w' => e = .returned (.bool false) ∧ Below w.heap.size w w' := by
  have BA := hide (below_alloc w (.cells #[.int .i64 x, .int .i64 y] 61))
  have HI := hide (ixT_no (w := w.alloc (.cells #[.int .i64 x, .int .i64 y] 61)) (c := c) hb hn hx (ha.below BA.out))
  clear hb hx ha
  go_enter Try.func62, Try.ntmps62
  go_wp2_with fail
  refine HI.out.mono ?_
  rintro e w1 ⟨rfl, hb1⟩
  go_wp2_with fail
  go_ret
  exact ⟨rfl, BA.out.trans (hb1.mono BA.out.size)⟩
set_option maxRecDepth 100000 in
set_option maxHeartbeats 4000000 in
theorem addT_any {base T G cap N i : Nat} {us : List Value} {B : List (List (Int × Int))} {x y : Int} {w : World} (h : LL w base T 61 2 ite (.slice (some ⟨G, 0, none⟩) N cap) us B) (hN : B.length = N) (hi : i < N) (h9 : (B.getD i []).length ≤ 900) (hx : ¬ (x, y) ∈ B.getD i []) (hbase : base ≤ w.heap.size) :
    Calls Try.prog 49 #[.pointer (some ⟨G, i, none⟩), .agg #[.int .i64 x, .int .i64 y]] w fun e w' => e = .returned (.bool true) ∧ ∃ us', LL w' base T 61 2 ite (.slice (some ⟨G, 0, none⟩) N cap) us' (B.set i (B.getD i [] ++ [(x, y)])) ∧ Below base w w' := by
  subst hN
  have hG : G < w.heap.size := (h.1.lt G rfl).2
  have hGb : base ≤ G := (h.1.lt G rfl).1
  have hc := h.cell hi
  obtain ⟨ar, cr, er, hr⟩ := own_items rfl (h.2.1 i hi)
  obtain ⟨P, hP⟩ : ∃ P, w.heap.size = P := ⟨_, rfl⟩
  have BA := below_alloc w (.cells #[.int .i64 x, .int .i64 y] 61)
  obtain ⟨w0, hw0⟩ : ∃ W, w.alloc (.cells #[.int .i64 x, .int .i64 y] 61) = W := ⟨_, rfl⟩
  have p0 : w0.cell? ⟨P, 0, none⟩ = some (.int .i64 x) := by rw [← hw0, ← hP]; simp
  have p1 : w0.cell? ⟨P, 1, none⟩ = some (.int .i64 y) := by rw [← hw0, ← hP]; simp
  rw [hw0] at BA
  have hPl : P < w0.heap.size := World.block_lt_of_cell? w0 _ p0
  have D0 : Below w0.heap.size w0 w0.drew := (Below.refl _ _).drew
  have L0 := (h.below BA).below D0
  have HCO := hide (coT_no (w := w0.drew) (c := cr) rfl h9 hx ((hr.below BA).below D0))
  have q0 : w0.cell? ⟨G, i, none⟩ = some (us.getD i nilS) := (BA.cell (p := ⟨G, i, none⟩) hG).trans hc
  rw [er] at q0
  -- behind the test, whatever world
  have HF : Hid (∀ w1, Below w0.heap.size w0.drew w1 → ∃ g cap2 w2, (∀ ty, (Builtin.append_ #[63, 63] ty #[.slice ar (B.getD i []).length cr, .slice (some ⟨w1.drew.heap.size, 0, none⟩) 1 1]).run Try.prog (w1.drew.alloc (.cells #[.int .i64 x, .int .i64 y] 61)) = .ok (.slice (some ⟨g, 0, none⟩) ((B.getD i []).length + 1) cap2) w2) ∧
      w2.cell? ⟨G, i, none⟩ = some (.slice ar (B.getD i []).length cr) ∧ w2.frozen? ⟨G, i, none⟩ = false ∧ ∃ us', LL (w2.setCell ⟨G, i, none⟩ (.slice (some ⟨g, 0, none⟩) ((B.getD i []).length + 1) cap2)) base T 61 2 ite (.slice (some ⟨G, 0, none⟩) B.length cap) us' (B.set i (B.getD i [] ++ [(x, y)])) ∧ Below base w (w2.setCell ⟨G, i, none⟩ (.slice (some ⟨g, 0, none⟩) ((B.getD i []).length + 1) cap2))) := hide fun w1 hb1 => by
    have L1 := L0.below hb1
    have L2 := L1.below (W' := w1.drew) ((Below.refl _ _).drew)
    have z0 : w.heap.size ≤ w1.heap.size := Nat.le_trans BA.size hb1.size
    have hrow := L2.2.1 i hi
    rw [er] at hrow
    obtain ⟨g, cap2, w2, r, o2, gr, fg⟩ := push_it (x := x) (y := y) Try.underlying63 hrow (by omega) (show base ≤ w1.drew.heap.size from Nat.le_trans hbase z0)
    have hG1 : G < w1.drew.heap.size := by show G < w1.heap.size; omega
    have hne : some G ≠ (Value.slice ar (B.getD i []).length cr).ownBlock := fun e => h.2.2.1 i G hi (by rw [er]; exact e.symm) rfl
    have kG : w2.heap[G]? = w1.drew.heap[G]? := gr.block G hG1 hne
    have c2 : w2.cell? ⟨G, i, none⟩ = some (.slice ar (B.getD i []).length cr) := by
      rw [World.cell?_of_block (w := w1.drew) (a := ⟨G, i, none⟩) kG, L2.cell hi, er]
    have f2 : w2.frozen? ⟨G, i, none⟩ = false := (World.frozen?_of_block (w := w1.drew) (a := ⟨G, i, none⟩) kG).trans (L2.1.frozenAt i)
    refine ⟨g, cap2, w2, r, c2, f2, _, L2.put (W' := w2) hi (fun b hb hne' => gr.block b hb (by rw [er] at hne'; exact hne')) gr.size (by rw [List.length_append, ite_snoc]; exact o2) (fun g' e => ?_), ?_⟩
    · have : g = g' := by simpa [Value.ownBlock] using e
      subst this
      rw [er]; exact fg
    · have b1 : Below base w w1.drew := ((BA.mono hbase).trans ((D0.trans hb1).mono (Nat.le_trans hbase BA.size))).trans ((Below.refl _ _).drew)
      exact (b1.trans (grown_under2 gr hrow (Nat.le_refl _) (show base ≤ w1.heap.size by omega))).setCell (p := ⟨G, i, none⟩) hGb _
  have HQ := hide fun (w1 : World) (hb1 : Below w0.heap.size w0.drew w1) => (⟨(hb1.cell (p := ⟨G, i, none⟩) (show G < w0.heap.size from Nat.lt_of_lt_of_le hG BA.size)).trans q0, (hb1.cell (p := ⟨P, 0, none⟩) hPl).trans p0, (hb1.cell (p := ⟨P, 1, none⟩) hPl).trans p1⟩ : w1.cell? ⟨G, i, none⟩ = _ ∧ w1.cell? ⟨P, 0, none⟩ = _ ∧ w1.cell? ⟨P, 1, none⟩ = _)
  have HW0 := hide hw0
  have HP := hide hP
  generalize (B.getD i []).length = len at *
  clear hr L0 D0 BA h hc er hx hw0 hP
  go_enter Try.func49, Try.ntmps49
  go_upto_region 1 with fail
  rw [HW0.out, HP.out]
  go_region_with (first
    | (go_at_call 62; refine HCO.out.mono ?_; rintro e w1 ⟨rfl, hb1⟩))
  all_goals
    obtain ⟨g, cap2, w2, hr, c2, f2, us', HL2, hB2⟩ := HF.out w1 hb1
    obtain ⟨k0, k1, k2⟩ := HQ.out w1 hb1
    have k3 : (w1.alloc (.cells #[.int .i64 x, .int .i64 y] 61)).cell? ⟨G, i, none⟩ = some (.slice ar len cr) := ((below_alloc w1 _).cell (p := ⟨G, i, none⟩) (by have := World.block_lt_of_cell? w1 _ k0; exact this)).trans k0
    have HLL := hide HL2
    have HBB := hide hB2
    clear HL2 hB2
    go_upto_region 3 with fail
    go_region_law ((refine step_append_run9 (by rfl) (.tmp 13) (.tmp 15) 63 63 (by rfl) (.slice ar len cr) (.slice (some ⟨w1.drew.heap.size, 0, none⟩) 1 1) (by simp [go_sem]) (by simp [go_sem]) (.slice (some ⟨g, 0, none⟩) (len + 1) cap2) w2 (hr _) ?_))
    all_goals
      go_wp2_with fail
      go_ret
      exact ⟨rfl, us', HLL.out, HBB.out⟩
end Go.Proofs.Ytnchkgblpnompaa
namespace Go.Proofs.Ytnchkgblpnompaa
open Go.RowKit

theorem none_row12 (w : World) : (w.alloc (.cells #[] 3)).ownsRow w.heap.size 3 1 (.slice (some ⟨w.heap.size, 0, none⟩) 0 0) 0 [] := by
  have h := World.ownsRow_lit (base := w.heap.size) (e := 3) (size := 1) w #[] 0 (Nat.le_refl _) (by unfold maxLen; omega) (by simp)
  simpa using h
/-- A list of ints behind an empty one. -/
theorem cl_run12 {w : World} {a : Option Addr} {n c : Nat} {xs : List Int} (hx : xs.length = n) (hn : n ≤ 1000) (ha : ARow w a xs) :
    ∃ a' c' w', (∀ ty, (Builtin.append_ #[23, 23] ty #[.slice (some ⟨w.heap.size, 0, none⟩) 0 0, .slice a n c]).run Try.prog (w.alloc (.cells #[] 3)) = .ok (.slice a' n c') w') ∧ w'.ownsRow w.heap.size 3 1 (.slice a' n c') n (ints xs) ∧ Below w.heap.size w w' := by
  obtain ⟨i0', hi', hz0, hz1, hz2⟩ := infoI
  obtain ⟨v', w', h1, h2, h3⟩ := run_append_v (P := Try.prog) (w.alloc (.cells #[] 3)) w.heap.size 23 0 3 i0' _ 8 Try.underlying23 hi' hz0 hz1 hz2 rfl _ 0 _ (none_row12 w) a n c (ints xs) (by rw [ints_len, hx]) (ha.alloc _).vrow (c_ints xs) (by unfold maxLen; omega) (by omega) (by simp)
  rw [Nat.zero_add] at h2
  obtain ⟨a', c', rfl⟩ := own_form h2
  exact ⟨a', c', w', fun _ => h1, h2, ((Below.refl _ _).alloc (Nat.le_refl _) (.cells #[] 3)).trans ⟨h3.os, h3.tape, h3.output, h3.size, fun b hb => h3.block b (by simp; omega) (by simp [Value.ownBlock]; omega)⟩⟩
/-- Behind an empty list, wherever that lies. -/
theorem ap1 {W : World} {a : Option Addr} {n c base g : Nat} {xs : List Int} (hx : xs.length = n) (hn : n ≤ 1000) (hb : base ≤ W.heap.size) (hE : W.ownsRow base 3 1 (.slice (some ⟨g, 0, none⟩) 0 0) 0 []) (ha : ARow W a xs) :
    ∃ a' c' w', (∀ ty, (Builtin.append_ #[23, 23] ty #[.slice (some ⟨g, 0, none⟩) 0 0, .slice a n c]).run Try.prog W = .ok (.slice a' n c') w') ∧ w'.ownsRow base 3 1 (.slice a' n c') n (ints xs) ∧ W.grownBy w' (some g) := by
  obtain ⟨i0', hi', hz0, hz1, hz2⟩ := infoI
  obtain ⟨v', w', h1, h2, h3⟩ := run_append_v (P := Try.prog) W base 23 0 3 i0' _ 8 Try.underlying23 hi' hz0 hz1 hz2 rfl _ 0 _ hE a n c (ints xs) (by rw [ints_len, hx]) ha.vrow (c_ints xs) (by unfold maxLen; omega) (by omega) hb
  rw [Nat.zero_add] at h2
  obtain ⟨a', c', rfl⟩ := own_form h2
  exact ⟨a', c', w', fun _ => h1, h2, h3⟩
theorem ap2 {W : World} {n base gx : Nat} {v : Value} {xs : List Int} {x : Int} (hx : xs.length = n) (hn : n ≤ 1000) (hb : base ≤ W.heap.size) (ho : W.ownsRow base 3 1 v n (ints xs)) (hX : VRow W (some ⟨gx, 0, none⟩) [.int .i64 x]) :
    ∃ a' c' w', (∀ ty, (Builtin.append_ #[23, 23] ty #[v, .slice (some ⟨gx, 0, none⟩) 1 1]).run Try.prog W = .ok (.slice a' (n + 1) c') w') ∧ ARow w' a' (xs ++ [x]) ∧ Below base W w' := by
  obtain ⟨i0', hi', hz0, hz1, hz2⟩ := infoI
  obtain ⟨v', w', h1, h2, h3⟩ := run_append_v (P := Try.prog) W base 23 0 3 i0' _ 8 Try.underlying23 hi' hz0 hz1 hz2 rfl v n _ ho (some ⟨gx, 0, none⟩) 1 1 [.int .i64 x] rfl hX (fun u hu => by simp at hu; subst hu; rfl) (by unfold maxLen; omega) (by omega) hb
  rw [← ints_snoc] at h2
  obtain ⟨a', c', e, h⟩ := own_row (xs := xs ++ [x]) (by rw [List.length_append, hx]; rfl) h2
  subst e
  exact ⟨a', c', w', fun _ => h1, h, grown_under' h3 ho (Nat.le_refl _) hb⟩
theorem vrow_at {W : World} {g : Nat} {u : Value} (h : W.cell? ⟨g, 0, none⟩ = some u) : VRow W (some ⟨g, 0, none⟩) [u] := by
  refine Or.inr ⟨g, 0, rfl, World.block_lt_of_cell? W _ h, fun j x hj => ?_⟩
  have : j = 0 := by
    have := (List.getElem?_eq_some_iff.1 hj).1
    simpa using this
  subst this
  simp at hj; subst hj
  exact h
/-- The copy of a list and one more, whenever the one more was laid. -/
structure Cp3 (D : World) (aL : Option Addr) (m cL : Nat) (R : List Int) (x : Int) (a1 : Option Addr) (c1 : Nat) (w1 : World) (a2 : Option Addr) (c2 : Nat) (w2 : World) (E X : Nat) (W1 : World) (W2 : World) : Prop where
  r1 : ∀ ty, (Builtin.append_ #[23, 23] ty #[.slice (some ⟨E, 0, none⟩) 0 0, .slice aL m cL]).run Try.prog W1 = .ok (.slice a1 m c1) w1
  r2 : ∀ ty, (Builtin.append_ #[23, 23] ty #[.slice a1 m c1, .slice (some ⟨X, 0, none⟩) 1 1]).run Try.prog W2 = .ok (.slice a2 (m + 1) c2) w2
  b1 : Below D.heap.size D w1
  b2 : Below D.heap.size D w2
  row : ARow w2 a2 (R ++ [x])
theorem cp_a {D : World} {aL : Option Addr} {m cL : Nat} {R : List Int} {x : Int} (hm : R.length = m) (hn : m ≤ 900) (hr : ARow D aL R) :
    ∃ a1 c1 w1 a2 c2 w2, Cp3 D aL m cL R x a1 c1 w1 a2 c2 w2 D.heap.size w1.heap.size (D.alloc (.cells #[] 3)) (w1.alloc (.cells #[.int .i64 x] 3)) := by
  obtain ⟨a1, c1, w1, r1, o1, g1⟩ := ap1 (c := cL) hm (by omega) (by simp) (none_row12 D) (hr.alloc _)
  have b1 : Below D.heap.size D w1 := (below_alloc D _).trans ⟨g1.os, g1.tape, g1.output, g1.size, fun b hb => g1.block b (by simp; omega) (by simp; omega)⟩
  obtain ⟨a2, c2, w2, r2, h2, b2⟩ := ap2 (x := x) hm (by omega) (by have := b1.size; simp; omega) (o1.alloc (.cells #[.int .i64 x] 3)) (vrow_new w1 _ 3)
  exact ⟨a1, c1, w1, a2, c2, w2, r1, r2, b1, (b1.alloc b1.size _).trans b2, h2⟩
theorem cp_b {D : World} {aL : Option Addr} {m cL : Nat} {R : List Int} {x : Int} (hm : R.length = m) (hn : m ≤ 900) (hr : ARow D aL R) :
    ∃ a1 c1 w1 a2 c2 w2, Cp3 D aL m cL R x a1 c1 w1 a2 c2 w2 D.heap.size (D.heap.size + 1) ((D.alloc (.cells #[] 3)).alloc (.cells #[.int .i64 x] 3)) w1 := by
  obtain ⟨a1, c1, w1, r1, o1, g1⟩ := ap1 (c := cL) (W := (D.alloc (.cells #[] 3)).alloc (.cells #[.int .i64 x] 3)) hm (by omega) (by simp; omega) ((none_row12 D).alloc _) ((hr.alloc _).alloc _)
  have bb : Below D.heap.size D ((D.alloc (.cells #[] 3)).alloc (.cells #[.int .i64 x] 3)) := (below_alloc D _).alloc (by simp) _
  have b1 : Below D.heap.size D w1 := bb.trans ⟨g1.os, g1.tape, g1.output, g1.size, fun b hb => g1.block b (by simp; omega) (by simp; omega)⟩
  have hx : w1.cell? ⟨D.heap.size + 1, 0, none⟩ = some (.int .i64 x) := (World.cell?_of_block (a := ⟨D.heap.size + 1, 0, none⟩) (g1.block (D.heap.size + 1) (by simp) (by simp))).trans (by simp)
  obtain ⟨a2, c2, w2, r2, h2, b2⟩ := ap2 (x := x) hm (by omega) b1.size o1 (vrow_at hx)
  exact ⟨a1, c1, w1, a2, c2, w2, r1, r2, b1, b1.trans b2, h2⟩
theorem cp_c {D : World} {aL : Option Addr} {m cL : Nat} {R : List Int} {x : Int} (hm : R.length = m) (hn : m ≤ 900) (hr : ARow D aL R) :
    ∃ a1 c1 w1 a2 c2 w2, Cp3 D aL m cL R x a1 c1 w1 a2 c2 w2 (D.heap.size + 1) D.heap.size ((D.alloc (.cells #[.int .i64 x] 3)).alloc (.cells #[] 3)) w1 := by
  have hE := own_low2 (base' := D.heap.size) (none_row12 (D.alloc (.cells #[.int .i64 x] 3))) (by simp)
  rw [show (D.alloc (.cells #[.int .i64 x] 3)).heap.size = D.heap.size + 1 by simp] at hE
  obtain ⟨a1, c1, w1, r1, o1, g1⟩ := ap1 (c := cL) (W := (D.alloc (.cells #[.int .i64 x] 3)).alloc (.cells #[] 3)) hm (by omega) (by simp; omega) hE ((hr.alloc _).alloc _)
  have bb : Below D.heap.size D ((D.alloc (.cells #[.int .i64 x] 3)).alloc (.cells #[] 3)) := (below_alloc D _).alloc (by simp) _
  have b1 : Below D.heap.size D w1 := bb.trans ⟨g1.os, g1.tape, g1.output, g1.size, fun b hb => g1.block b (by simp; omega) (by simp; omega)⟩
  have hx : w1.cell? ⟨D.heap.size, 0, none⟩ = some (.int .i64 x) := (World.cell?_of_block (a := ⟨D.heap.size, 0, none⟩) (g1.block D.heap.size (by simp; omega) (by simp))).trans (by simp)
  obtain ⟨a2, c2, w2, r2, h2, b2⟩ := ap2 (x := x) hm (by omega) b1.size o1 (vrow_at hx)
  exact ⟨a1, c1, w1, a2, c2, w2, r1, r2, b1, b1.trans b2, h2⟩
theorem ARow.tail {w : World} {b o : Nat} {s : Int} {t : List Int} (h : ARow w (some ⟨b, o, none⟩) (s :: t)) : ARow w (some ⟨b, o + 1, none⟩) t := by
  rcases h with h | ⟨b', o', e, hl, hc⟩
  · cases h
  · cases e
    cases t with
    | nil => exact Or.inl rfl
    | cons y t =>
      refine Or.inr ⟨b, o + 1, rfl, hl, fun i hi => ?_⟩
      have := hc (i + 1) (by simpa using hi)
      rw [show o + (i + 1) = o + 1 + i by omega, List.getD_cons_succ] at this
      exact this
theorem It.snoc_at (R : List Int) (x : Int) (b : Nat) : (R ++ [x]).getD b 0 = if b < R.length then R.getD b 0 else if b = R.length then x else 0 := by
  by_cases e : b < R.length
  · rw [if_pos e]; simp [List.getElem?_append_left e]
  · rw [if_neg e]
    by_cases e2 : b = R.length
    · subst e2; simp
    · rw [if_neg e2, List.getD_eq_getElem?_getD, List.getElem?_eq_none (by simp; omega)]; rfl
theorem It.PosL.snoc {R : List Int} {x : Int} (h : It.PosL R) (hx : 0 ≤ x) : It.PosL (R ++ [x]) := fun b _ => by
  rw [It.snoc_at]
  split
  · exact h b ‹_›
  · split <;> omega
theorem It.snoc_le {R : List Int} {x : Int} {m : Nat} (hm : R.length = m) (h : ∀ b, b < m → R.getD b 0 ≤ 20) (hx : x ≤ 20) : ∀ b, b < m + 1 → (R ++ [x]).getD b 0 ≤ 20 := fun b _ => by
  rw [It.snoc_at]
  split
  · exact h b (by omega)
  · split <;> omega
def FWP (l : List Int) : Prop := ∀ (a aL : Option Addr) (n c m cL : Nat) (R : List Int) (best : Nat) (w : World), l.length = n → n ≤ 1000 → n ≤ c → (∀ x ∈ l, 1 ≤ x ∧ x ≤ 20) → R.length = m → m + n ≤ 900 → It.PosL R → (∀ b, b < m → R.getD b 0 ≤ 20) → best ≤ 2000 → ARow w a l → ARow w aL R →
    Calls Try.prog 36 #[.slice a n c, .slice aL m cL, .int .i64 best] w fun e w' => ∃ r : Nat, e = .returned (.int .i64 r) ∧ It.FewR l R best r ∧ Below w.heap.size w w'
set_option maxRecDepth 100000 in
set_option maxHeartbeats 1000000 in
theorem fw_full {l : List Int} {a aL : Option Addr} {n c m cL : Nat} {R : List Int} {best : Nat} {w : World} (hm : R.length = m) (h : best ≤ m) :
    Calls Try.prog 36 #[.slice a n c, .slice aL m cL, .int .i64 best] w fun e w' => ∃ r : Nat, e = .returned (.int .i64 r) ∧ It.FewR l R best r ∧ Below w.heap.size w w' := by
  have h' : (best : Int) ≤ (m : Int) := by omega
  have HF := hide (It.few_full (S := l) (R := R) (best := best) (by omega))
  clear hm h
  go_enter Try.func36, Try.ntmps36
  go_wp2_with fail
  go_ret
  exact ⟨best, rfl, HF.out, Below.refl _ _⟩
set_option maxRecDepth 100000 in
set_option maxHeartbeats 4000000 in
theorem fw12 (l : List Int) : FWP l := by
  induction l with
  | nil =>
    intro a aL n c m cL R best w hl _ _ _ hm _ hp _ _ _ _
    by_cases hb : best ≤ m
    · exact fw_full hm hb
    · obtain rfl : n = 0 := hl.symm
      have hb' : ¬ (best : Int) ≤ (m : Int) := by omega
      have HF := hide (It.few_none hp (best := best) (by omega))
      rw [hm] at HF
      clear hl hm hp hb
      go_enter Try.func36, Try.ntmps36
      go_wp2_with fail
      go_ret
      exact ⟨m, rfl, HF.out, Below.refl _ _⟩
  | cons s t ih =>
    have IH := hide ih
    clear ih
    intro a aL n c m cL R best w hl hn hnc hs hm hmn hp h20 hbest ha hr
    by_cases hb : best ≤ m
    · exact fw_full hm hb
    have hb' : ¬ (best : Int) ≤ (m : Int) := by omega
    obtain ⟨s1, s2⟩ := hs s (by simp)
    have HSZ := hide (fun y (hy : y ∈ t) => hs y (by simp [hy]))
    have HPT : Hid (∀ y ∈ t, 0 ≤ y) := hide fun y hy => by have := hs y (by simp [hy]); omega
    obtain ⟨b, o, rfl, q0⟩ := ha.at (i := 0) (by simp)
    have hbw : b < w.heap.size := World.block_lt_of_cell? w _ q0
    have q0' : w.cell? ⟨b, o, none⟩ = some (.int .i64 s) := by simpa using q0
    have HT := hide fun (W : World) (h : Below w.heap.size w W) => (ha.tail).below h
    have HRR := hide fun (W : World) (h : Below w.heap.size w W) => hr.below h
    have HM := hide hm
    have HP := hide hp
    have H20 := hide h20
    have hn1 : 1 ≤ n := by rw [← hl]; simp
    have HLT : Hid (t.length = n - 1) := hide (by rw [← hl]; simp)
    have c1 : (1 : Int) ≤ (n : Int) := by omega
    have c0 : ((n : Int) == 0) = false := by simp; omega
    have c2 : (0 : Int) < (n : Int) := by omega
    have c3 : 0 < n := by omega
    have HQ0 := hide fun (W : World) (h : Below w.heap.size w W) => (h.cell (p := ⟨b, o, none⟩) hbw).trans q0'
    clear hl hs hm hp h20 ha hr q0 q0' hb
    by_cases hc1 : c = 1
    · subst hc1
      have HT0 : Hid (∀ W : World, ARow W (some ⟨b, o, none⟩) t) := hide fun W => Or.inl (List.length_eq_zero_iff.1 (by rw [HLT.out]; omega))
      go_enter Try.func36, Try.ntmps36
      go_wp2_with fail
      go_loopw [2, 7, 8, 21] (fun s2 _ _ s21 wr => ∃ (k r : Nat), s2 = .int .i64 r ∧ s21 = .int .i64 k ∧ k ≤ m ∧ Hid (It.FewK s t R best k r) ∧ Hid (Below w.heap.size w wr)) (fun _ _ _ s21 _ => m - (intOf s21).toNat)
      case atStart => exact ⟨0, best, rfl, rfl, Nat.zero_le _, hide (It.fk_start _ _ _ _), hide (Below.refl _ _)⟩
      case round =>
        obtain ⟨k, r, rfl, rfl, hk, HFK, HB⟩ := hrel
        have hrb := HFK.out.le
        by_cases hlt : k < m
        · have i0 : (0 : Int) ≤ (k : Int) := by omega
          have i1 : (k : Int) < (m : Int) := by omega
          obtain ⟨bL, oL, ea, p1⟩ := (HRR.out _ HB.out).at (i := k) (by rw [HM.out]; exact hlt)
          subst ea
          have p2 := HQ0.out _ HB.out
          have hr0 := HP.out k (by rw [HM.out]; exact hlt)
          have hr1 := H20.out k hlt
          by_cases hrs : s ≤ R.getD k 0
          · have HNX := hide fun r' h => HFK.out.next (by omega) s2 HPT.out (by rw [HM.out]; exact hlt) hrs (r' := r') h
            have HPS := hide (HP.out.set (i := k) (s := s) (by rw [HM.out]; exact hlt) hrs)
            have HSL : Hid ((R.set k (R.getD k 0 - s)).length = m) := hide (by rw [List.length_set]; exact HM.out)
            have HSB : Hid (∀ b, b < m → (R.set k (R.getD k 0 - s)).getD b 0 ≤ 20) := hide fun b hb => by
              rw [It.getD_set (by rw [HM.out]; exact hlt)]
              split
              · omega
              · exact H20.out b hb
            have HRK : Hid (R.getD k 0 = R.getD k 0) := hide rfl
            generalize hx : R.getD k 0 = x at *
            have HX := hide hx
            have hws : IntKind.i64.wrap (x - s) = x - s := by rw [IntKind.wrap_i64]; omega
            clear HFK hx HRK
            go_upto_region 8 with fail
            go_quiet (fail)
            have hD : Below wr.heap.size wr (wr.drewN nq) := below_drewN (Below.refl _ _) nq
            have BD := hide (HB.out.trans (hD.mono HB.out.size))
            obtain ⟨a1, c1', w1, hr1', own1, hb1⟩ := cl_run12 (c := cL) (w := wr.drewN nq) HM.out (by omega) (HRR.out _ BD.out)
            obtain ⟨g1, cg1, e1, hg1, _⟩ := own1.form (by omega)
            cases e1
            have B1 := hide (BD.out.trans (hb1.mono BD.out.size))
            have z1 : w1.cell? ⟨g1, k, none⟩ = some (.int .i64 x) := by rw [own1.cellAt k (by omega), ints_get R k (by rw [HM.out]; exact hlt), HX.out]
            have z2 := own1.frozenAt k
            have z3 := HQ0.out _ B1.out
            obtain ⟨st1, st2⟩ := own1.stored k (.int .i64 (x - s))
            rw [ints_set] at st1
            have hgw : w.heap.size ≤ g1 := by have := BD.out.size; have := (own1.lt g1 rfl).1; omega
            have B2 : Hid (Below w.heap.size w (w1.setCell ⟨g1, k, none⟩ (.int .i64 (x - s)))) := hide (B1.out.setCell (p := ⟨g1, k, none⟩) hgw _)
            have HRW := hide (arow_owns (by rw [List.length_set]; exact HM.out.symm) st1)
            clear own1 hb1 st1 st2 hD hg1 p1 p2
            go_upto_region 10 with (at_builtin; refine Lib.wpList_append_run _ rfl _ _ _ _ rfl _ _ rfl rfl _ _ (hr1' _) ?_)
            go_region
            have B3 : Hid (Below w.heap.size w ((w1.setCell ⟨g1, k, none⟩ (.int .i64 (x - s))).drew)) := hide (B2.out.drew)
            have HC := hide fun (a2 : Option Addr) (n2 c2 : Nat) (h3 : t.length = n2) (h2 : n2 ≤ c2) (h : ARow ((w1.setCell ⟨g1, k, none⟩ (.int .i64 (x - s))).drew) a2 t) => IH.out a2 (some ⟨g1, 0, none⟩) n2 c2 m c1' (R.set k (x - s)) r _ h3 (by have := HLT.out; omega) h2 HSZ.out HSL.out (by have := HLT.out; omega) HPS.out HSB.out (by omega) h (HRW.out.below ((Below.refl _ _).drew))
            have HT3 := hide (HT0.out ((w1.setCell ⟨g1, k, none⟩ (.int .i64 (x - s))).drew))
            clear z1 z2 z3 B1 B2 BD hr1' HRW IH HB
            go_wp2_with fail
            refine (HC.out _ _ _ (by have := HLT.out; omega) (by omega) HT3.out).mono ?_
            rintro e w5 ⟨r', rfl, hf5, hb5⟩
            have H1 := hide (HNX.out r' hf5)
            have HB5 := hide (B3.out.trans (hb5.mono B3.out.size))
            clear hf5 hb5 HC B3 HNX HT3
            go_wp2_with fail
            go_roundw
            case rel => exact ⟨k + 1, r', rfl, by go_num, by omega, H1, HB5⟩
            case measure => simp only [intOf]; omega
          · have H1 := hide (HFK.out.small hrs)
            have hrs' : ¬ s ≤ R.getD k 0 := hrs
            generalize R.getD k 0 = x at *
            clear HFK
            go_upto_region 8 with fail
            go_quiet (fail)
            have HB2 := hide (below_drewN HB.out nq)
            go_wp2_with fail
            go_roundw
            case rel => exact ⟨k + 1, r, rfl, by go_num, by omega, H1, HB2⟩
            case measure => simp only [intOf]; omega
        · have hke : k = m := by omega
          subst hke
          have HLS := hide fun r' h => HFK.out.last (by omega) s2 HPT.out (by rw [HM.out]; exact Nat.le_refl _) (r' := r') h
          have hD : Below wr.heap.size wr wr.drew := (Below.refl _ _).drew
          have BD := hide (HB.out.trans (hD.mono HB.out.size))
          obtain ⟨a1, d1, w1, a2, d2, w2, kA⟩ := cp_a (cL := cL) (x := 20 - s) HM.out (by omega) (HRR.out _ BD.out)
          obtain ⟨a3, d3, w3, a4, d4, w4, kB⟩ := cp_b (cL := cL) (x := 20 - s) HM.out (by omega) (HRR.out _ BD.out)
          obtain ⟨a5, d5, w5, a6, d6, w6, kC⟩ := cp_c (cL := cL) (x := 20 - s) HM.out (by omega) (HRR.out _ BD.out)
          have p0 := HQ0.out _ HB.out
          have p1 := ((below_alloc wr (.cells #[] 3)).cell (p := ⟨b, o, none⟩) (by have := HB.out.size; show b < wr.heap.size; omega)).trans p0
          have p2 := HQ0.out _ (BD.out.trans (kA.b1.mono BD.out.size))
          have hws : IntKind.i64.wrap (20 - s) = 20 - s := by rw [IntKind.wrap_i64]; omega
          have HC := hide fun (W : World) (aR : Option Addr) (cR : Nat) (hR : ARow W aR (R ++ [20 - s])) (a3 : Option Addr) (n2 c2 : Nat) (h3 : t.length = n2) (h2 : n2 ≤ c2) (h : ARow W a3 t) => IH.out a3 aR n2 c2 (k + 1) cR (R ++ [20 - s]) r W h3 (by have := HLT.out; omega) h2 HSZ.out (by rw [List.length_append, HM.out]; rfl) (by have := HLT.out; omega) (It.PosL.snoc HP.out (by omega)) (It.snoc_le HM.out H20.out (by omega)) (by omega) h hR
          have BA := hide (BD.out.trans (kA.b2.mono BD.out.size))
          have BB := hide (BD.out.trans (kB.b2.mono BD.out.size))
          have BC := hide (BD.out.trans (kC.b2.mono BD.out.size))
          have HCA := hide fun n2 h3 c2 h2 => HC.out w2 a2 d2 kA.row _ n2 c2 h3 h2 (HT0.out w2)
          have HCB := hide fun n2 h3 c2 h2 => HC.out w4 a4 d4 kB.row _ n2 c2 h3 h2 (HT0.out w4)
          have HCC := hide fun n2 h3 c2 h2 => HC.out w6 a6 d6 kC.row _ n2 c2 h3 h2 (HT0.out w6)
          have A1 := hide kA.r1
          have A2 := hide kA.r2
          have B1 := hide kB.r1
          have B2 := hide kB.r2
          have C1 := hide kC.r1
          have C2 := hide kC.r2
          clear kA kB kC hD BD HFK IH HC
          go_wp2_with fail
          go_region_law ((first
            | (refine step_append_run9 (by rfl) (.tmp 52) (.tmp 53) 23 23 (by rfl) (.slice (some ⟨wr.drew.heap.size, 0, none⟩) 0 0) (.slice aL k cL) (by simp [go_sem]) (by simp [go_sem]) (.slice a1 k d1) w1 (A1.out _) ?_)
            | (refine step_append_run9 (by rfl) (.tmp 52) (.tmp 53) 23 23 (by rfl) (.slice (some ⟨wr.drew.heap.size, 0, none⟩) 0 0) (.slice aL k cL) (by simp [go_sem]) (by simp [go_sem]) (.slice a3 k d3) w3 (B1.out _) ?_)
            | (refine step_append_run9 (by rfl) (.tmp 52) (.tmp 53) 23 23 (by rfl) (.slice (some ⟨wr.drew.heap.size + 1, 0, none⟩) 0 0) (.slice aL k cL) (by simp [go_sem]) (by simp [go_sem]) (.slice a5 k d5) w5 (C1.out _) ?_)
            | (refine step_append_run9 (by rfl) (.tmp 54) (.tmp 59) 23 23 (by rfl) (.slice a1 k d1) (.slice (some ⟨w1.heap.size, 0, none⟩) 1 1) (by simp [go_sem]) (by simp [go_sem]) (.slice a2 (k + 1) d2) w2 (A2.out _) ?_)
            | (refine step_append_run9 (by rfl) (.tmp 54) (.tmp 59) 23 23 (by rfl) (.slice a3 k d3) (.slice (some ⟨wr.drew.heap.size + 1, 0, none⟩) 1 1) (by simp [go_sem]) (by simp [go_sem]) (.slice a4 (k + 1) d4) w4 (B2.out _) ?_)
            | (refine step_append_run9 (by rfl) (.tmp 54) (.tmp 59) 23 23 (by rfl) (.slice a5 k d5) (.slice (some ⟨wr.drew.heap.size, 0, none⟩) 1 1) (by simp [go_sem]) (by simp [go_sem]) (.slice a6 (k + 1) d6) w6 (C2.out _) ?_)
            | (go_simp; with_reducible show Calls Try.prog _ _ w2 _; refine (HCA.out _ (by have := HLT.out; omega) _ (by omega)).mono ?_; rintro e w9 ⟨r', rfl, hf9, hb9⟩; have hb10 := hide (BA.out.trans (hb9.mono BA.out.size)); clear hb9)
            | (go_simp; with_reducible show Calls Try.prog _ _ w4 _; refine (HCB.out _ (by have := HLT.out; omega) _ (by omega)).mono ?_; rintro e w9 ⟨r', rfl, hf9, hb9⟩; have hb10 := hide (BB.out.trans (hb9.mono BB.out.size)); clear hb9)
            | (go_simp; with_reducible show Calls Try.prog _ _ w6 _; refine (HCC.out _ (by have := HLT.out; omega) _ (by omega)).mono ?_; rintro e w9 ⟨r', rfl, hf9, hb9⟩; have hb10 := hide (BC.out.trans (hb9.mono BC.out.size)); clear hb9)))
          all_goals
            have H1 := hide (HLS.out r' hf9)
            clear hf9
            go_wp2_with fail
            go_ret
            exact ⟨r', rfl, H1.out, hb10.out⟩
    · have hc2 : ¬ c - 1 = 0 := by omega
      go_enter Try.func36, Try.ntmps36
      go_wp2_with fail
      go_loopw [2, 7, 8, 21] (fun s2 _ _ s21 wr => ∃ (k r : Nat), s2 = .int .i64 r ∧ s21 = .int .i64 k ∧ k ≤ m ∧ Hid (It.FewK s t R best k r) ∧ Hid (Below w.heap.size w wr)) (fun _ _ _ s21 _ => m - (intOf s21).toNat)
      case atStart => exact ⟨0, best, rfl, rfl, Nat.zero_le _, hide (It.fk_start _ _ _ _), hide (Below.refl _ _)⟩
      case round =>
        obtain ⟨k, r, rfl, rfl, hk, HFK, HB⟩ := hrel
        have hrb := HFK.out.le
        by_cases hlt : k < m
        · have i0 : (0 : Int) ≤ (k : Int) := by omega
          have i1 : (k : Int) < (m : Int) := by omega
          obtain ⟨bL, oL, ea, p1⟩ := (HRR.out _ HB.out).at (i := k) (by rw [HM.out]; exact hlt)
          subst ea
          have p2 := HQ0.out _ HB.out
          have hr0 := HP.out k (by rw [HM.out]; exact hlt)
          have hr1 := H20.out k hlt
          by_cases hrs : s ≤ R.getD k 0
          · have HNX := hide fun r' h => HFK.out.next (by omega) s2 HPT.out (by rw [HM.out]; exact hlt) hrs (r' := r') h
            have HPS := hide (HP.out.set (i := k) (s := s) (by rw [HM.out]; exact hlt) hrs)
            have HSL : Hid ((R.set k (R.getD k 0 - s)).length = m) := hide (by rw [List.length_set]; exact HM.out)
            have HSB : Hid (∀ b, b < m → (R.set k (R.getD k 0 - s)).getD b 0 ≤ 20) := hide fun b hb => by
              rw [It.getD_set (by rw [HM.out]; exact hlt)]
              split
              · omega
              · exact H20.out b hb
            have HRK : Hid (R.getD k 0 = R.getD k 0) := hide rfl
            generalize hx : R.getD k 0 = x at *
            have HX := hide hx
            have hws : IntKind.i64.wrap (x - s) = x - s := by rw [IntKind.wrap_i64]; omega
            clear HFK hx HRK
            go_upto_region 8 with fail
            go_quiet (fail)
            have hD : Below wr.heap.size wr (wr.drewN nq) := below_drewN (Below.refl _ _) nq
            have BD := hide (HB.out.trans (hD.mono HB.out.size))
            obtain ⟨a1, c1', w1, hr1', own1, hb1⟩ := cl_run12 (c := cL) (w := wr.drewN nq) HM.out (by omega) (HRR.out _ BD.out)
            obtain ⟨g1, cg1, e1, hg1, _⟩ := own1.form (by omega)
            cases e1
            have B1 := hide (BD.out.trans (hb1.mono BD.out.size))
            have z1 : w1.cell? ⟨g1, k, none⟩ = some (.int .i64 x) := by rw [own1.cellAt k (by omega), ints_get R k (by rw [HM.out]; exact hlt), HX.out]
            have z2 := own1.frozenAt k
            have z3 := HQ0.out _ B1.out
            obtain ⟨st1, st2⟩ := own1.stored k (.int .i64 (x - s))
            rw [ints_set] at st1
            have hgw : w.heap.size ≤ g1 := by have := BD.out.size; have := (own1.lt g1 rfl).1; omega
            have B2 : Hid (Below w.heap.size w (w1.setCell ⟨g1, k, none⟩ (.int .i64 (x - s)))) := hide (B1.out.setCell (p := ⟨g1, k, none⟩) hgw _)
            have HRW := hide (arow_owns (by rw [List.length_set]; exact HM.out.symm) st1)
            clear own1 hb1 st1 st2 hD hg1 p1 p2
            go_upto_region 10 with (at_builtin; refine Lib.wpList_append_run _ rfl _ _ _ _ rfl _ _ rfl rfl _ _ (hr1' _) ?_)
            go_region
            have B3 : Hid (Below w.heap.size w ((w1.setCell ⟨g1, k, none⟩ (.int .i64 (x - s))).drew)) := hide (B2.out.drew)
            have HC := hide fun (a2 : Option Addr) (n2 c2 : Nat) (h3 : t.length = n2) (h2 : n2 ≤ c2) (h : ARow ((w1.setCell ⟨g1, k, none⟩ (.int .i64 (x - s))).drew) a2 t) => IH.out a2 (some ⟨g1, 0, none⟩) n2 c2 m c1' (R.set k (x - s)) r _ h3 (by have := HLT.out; omega) h2 HSZ.out HSL.out (by have := HLT.out; omega) HPS.out HSB.out (by omega) h (HRW.out.below ((Below.refl _ _).drew))
            have HT3 := hide (HT.out _ B3.out)
            clear z1 z2 z3 B1 B2 BD hr1' HRW IH HB
            go_wp2_with fail
            refine (HC.out _ _ _ (by have := HLT.out; omega) (by omega) HT3.out).mono ?_
            rintro e w5 ⟨r', rfl, hf5, hb5⟩
            have H1 := hide (HNX.out r' hf5)
            have HB5 := hide (B3.out.trans (hb5.mono B3.out.size))
            clear hf5 hb5 HC B3 HNX HT3
            go_wp2_with fail
            go_roundw
            case rel => exact ⟨k + 1, r', rfl, by go_num, by omega, H1, HB5⟩
            case measure => simp only [intOf]; omega
          · have H1 := hide (HFK.out.small hrs)
            have hrs' : ¬ s ≤ R.getD k 0 := hrs
            generalize R.getD k 0 = x at *
            clear HFK
            go_upto_region 8 with fail
            go_quiet (fail)
            have HB2 := hide (below_drewN HB.out nq)
            go_wp2_with fail
            go_roundw
            case rel => exact ⟨k + 1, r, rfl, by go_num, by omega, H1, HB2⟩
            case measure => simp only [intOf]; omega
        · have hke : k = m := by omega
          subst hke
          have HLS := hide fun r' h => HFK.out.last (by omega) s2 HPT.out (by rw [HM.out]; exact Nat.le_refl _) (r' := r') h
          have hD : Below wr.heap.size wr wr.drew := (Below.refl _ _).drew
          have BD := hide (HB.out.trans (hD.mono HB.out.size))
          obtain ⟨a1, d1, w1, a2, d2, w2, kA⟩ := cp_a (cL := cL) (x := 20 - s) HM.out (by omega) (HRR.out _ BD.out)
          obtain ⟨a3, d3, w3, a4, d4, w4, kB⟩ := cp_b (cL := cL) (x := 20 - s) HM.out (by omega) (HRR.out _ BD.out)
          obtain ⟨a5, d5, w5, a6, d6, w6, kC⟩ := cp_c (cL := cL) (x := 20 - s) HM.out (by omega) (HRR.out _ BD.out)
          have p0 := HQ0.out _ HB.out
          have p1 := ((below_alloc wr (.cells #[] 3)).cell (p := ⟨b, o, none⟩) (by have := HB.out.size; show b < wr.heap.size; omega)).trans p0
          have p2 := HQ0.out _ (BD.out.trans (kA.b1.mono BD.out.size))
          have hws : IntKind.i64.wrap (20 - s) = 20 - s := by rw [IntKind.wrap_i64]; omega
          have HC := hide fun (W : World) (aR : Option Addr) (cR : Nat) (hR : ARow W aR (R ++ [20 - s])) (a3 : Option Addr) (n2 c2 : Nat) (h3 : t.length = n2) (h2 : n2 ≤ c2) (h : ARow W a3 t) => IH.out a3 aR n2 c2 (k + 1) cR (R ++ [20 - s]) r W h3 (by have := HLT.out; omega) h2 HSZ.out (by rw [List.length_append, HM.out]; rfl) (by have := HLT.out; omega) (It.PosL.snoc HP.out (by omega)) (It.snoc_le HM.out H20.out (by omega)) (by omega) h hR
          have BA := hide (BD.out.trans (kA.b2.mono BD.out.size))
          have BB := hide (BD.out.trans (kB.b2.mono BD.out.size))
          have BC := hide (BD.out.trans (kC.b2.mono BD.out.size))
          have HCA := hide fun n2 h3 c2 h2 => HC.out w2 a2 d2 kA.row _ n2 c2 h3 h2 (HT.out _ BA.out)
          have HCB := hide fun n2 h3 c2 h2 => HC.out w4 a4 d4 kB.row _ n2 c2 h3 h2 (HT.out _ BB.out)
          have HCC := hide fun n2 h3 c2 h2 => HC.out w6 a6 d6 kC.row _ n2 c2 h3 h2 (HT.out _ BC.out)
          have A1 := hide kA.r1
          have A2 := hide kA.r2
          have B1 := hide kB.r1
          have B2 := hide kB.r2
          have C1 := hide kC.r1
          have C2 := hide kC.r2
          clear kA kB kC hD BD HFK IH HC
          go_wp2_with fail
          go_region_law ((first
            | (refine step_append_run9 (by rfl) (.tmp 52) (.tmp 53) 23 23 (by rfl) (.slice (some ⟨wr.drew.heap.size, 0, none⟩) 0 0) (.slice aL k cL) (by simp [go_sem]) (by simp [go_sem]) (.slice a1 k d1) w1 (A1.out _) ?_)
            | (refine step_append_run9 (by rfl) (.tmp 52) (.tmp 53) 23 23 (by rfl) (.slice (some ⟨wr.drew.heap.size, 0, none⟩) 0 0) (.slice aL k cL) (by simp [go_sem]) (by simp [go_sem]) (.slice a3 k d3) w3 (B1.out _) ?_)
            | (refine step_append_run9 (by rfl) (.tmp 52) (.tmp 53) 23 23 (by rfl) (.slice (some ⟨wr.drew.heap.size + 1, 0, none⟩) 0 0) (.slice aL k cL) (by simp [go_sem]) (by simp [go_sem]) (.slice a5 k d5) w5 (C1.out _) ?_)
            | (refine step_append_run9 (by rfl) (.tmp 54) (.tmp 59) 23 23 (by rfl) (.slice a1 k d1) (.slice (some ⟨w1.heap.size, 0, none⟩) 1 1) (by simp [go_sem]) (by simp [go_sem]) (.slice a2 (k + 1) d2) w2 (A2.out _) ?_)
            | (refine step_append_run9 (by rfl) (.tmp 54) (.tmp 59) 23 23 (by rfl) (.slice a3 k d3) (.slice (some ⟨wr.drew.heap.size + 1, 0, none⟩) 1 1) (by simp [go_sem]) (by simp [go_sem]) (.slice a4 (k + 1) d4) w4 (B2.out _) ?_)
            | (refine step_append_run9 (by rfl) (.tmp 54) (.tmp 59) 23 23 (by rfl) (.slice a5 k d5) (.slice (some ⟨wr.drew.heap.size, 0, none⟩) 1 1) (by simp [go_sem]) (by simp [go_sem]) (.slice a6 (k + 1) d6) w6 (C2.out _) ?_)
            | (go_simp; with_reducible show Calls Try.prog _ _ w2 _; refine (HCA.out _ (by have := HLT.out; omega) _ (by omega)).mono ?_; rintro e w9 ⟨r', rfl, hf9, hb9⟩; have hb10 := hide (BA.out.trans (hb9.mono BA.out.size)); clear hb9)
            | (go_simp; with_reducible show Calls Try.prog _ _ w4 _; refine (HCB.out _ (by have := HLT.out; omega) _ (by omega)).mono ?_; rintro e w9 ⟨r', rfl, hf9, hb9⟩; have hb10 := hide (BB.out.trans (hb9.mono BB.out.size)); clear hb9)
            | (go_simp; with_reducible show Calls Try.prog _ _ w6 _; refine (HCC.out _ (by have := HLT.out; omega) _ (by omega)).mono ?_; rintro e w9 ⟨r', rfl, hf9, hb9⟩; have hb10 := hide (BC.out.trans (hb9.mono BC.out.size)); clear hb9)))
          all_goals
            have H1 := hide (HLS.out r' hf9)
            clear hf9
            go_wp2_with fail
            go_ret
            exact ⟨r', rfl, H1.out, hb10.out⟩
set_option maxRecDepth 100000 in
set_option maxHeartbeats 1000000 in
theorem sfb_w {a : Option Addr} {n c : Nat} {l : List Int} {w : World} (hx : l.length = n) (hc : n ≤ c) (ha : ARow w a l) :
    Calls Try.prog 11 #[.slice a n c] w fun e w' => e = .returned (.tuple #[.int .i64 (It.fbI l), .bool (It.goodB l)]) ∧ Below w.heap.size w w' := by
  have HX := hide hx
  have HA := hide ha
  unfold It.fbI
  cases hg : It.goodB l
  · have HG := hide hg
    clear hx ha hg
    go_enter Try.func11, Try.ntmps11
    go_wp2_with fail
    refine (sgi_eq HX HA HG).mono ?_
    rintro e w1 ⟨rfl, rfl⟩
    go_wp2_with fail
    refine bodyPost_ret (v := .tuple #[.int .i64 0, .bool false]) (by simp [results, Try.results11, go_sem]) rfl ?_
    exact ⟨rfl, Below.refl _ _⟩
  · have HG := hide hg
    have h9 := It.good_len hg
    rw [hx] at h9
    have HF := hide (fw12 l a none n c 0 0 [] (n + 1) w hx (by omega) hc (fun x hx' => It.good_mem hg hx') rfl (by omega) (fun b hb => absurd hb (Nat.not_lt_zero _)) (fun b hb => absurd hb (Nat.not_lt_zero _)) (by omega) ha (Or.inl rfl))
    have HE : Hid (∀ r, It.FewR l [] (n + 1) r → It.fewN l = r) := hide fun r h => It.few_end (It.good_all20 hg) (by rw [hx]; exact h)
    rw [show (((n + 1 : Nat) : Int)) = (n : Int) + 1 by omega] at HF
    generalize It.fewN l = Q at *
    clear hx ha hg
    go_enter Try.func11, Try.ntmps11
    go_wp2_with fail
    refine (sgi_eq HX HA HG).mono ?_
    rintro e w1 ⟨rfl, hw1⟩
    obtain rfl : w = w1 := hw1.symm
    go_wp2_with fail
    refine HF.out.mono ?_
    rintro e w1 ⟨r, rfl, hr, hb⟩
    have HQ := hide (HE.out r hr)
    clear hr HF
    go_wp2_with fail
    refine bodyPost_ret (v := .tuple #[.int .i64 (r : Nat), .bool true]) (by simp [results, Try.results11, go_sem]) rfl ?_
    exact ⟨by rw [HQ.out], hb⟩
end Go.Proofs.Ytnchkgblpnompaa
namespace Go.Proofs.Ytnchkgblpnompaa
open Go.RowKit

theorem LL.keep2 {α : Type} {W W' : World} {base T E s : Nat} {enc : List α → List Value} {v : Value} {us : List Value} {R : List (List α)} (h : LL W base T E s enc v us R) (hb : ∀ g, g < W.heap.size → (v.ownBlock = some g ∨ ∃ i, i < R.length ∧ (us.getD i nilS).ownBlock = some g) → W'.heap[g]? = W.heap[g]?) : LL W' base T E s enc v us R :=
  ⟨own_keep2 h.1 fun g hv hl => hb g hl (Or.inl hv), fun i hi => own_keep2 (h.2.1 i hi) fun g hv hl => hb g hl (Or.inr ⟨i, hi, hv⟩), h.2.2⟩
def FS (W : World) (b0 : Nat) (v vl : Value) (us : List Value) (B : List (List (Int × Int))) : Prop :=
  LL W b0 23 3 1 ints v us (It.nums B) ∧ W.ownsRow b0 3 1 vl B.length (ints (It.rooms B)) ∧ b0 ≤ W.heap.size ∧ ∀ g, vl.ownBlock = some g → v.ownBlock ≠ some g ∧ ∀ i, i < B.length → (us.getD i nilS).ownBlock ≠ some g
theorem FS.nil (W : World) (b0 : Nat) (h : b0 ≤ W.heap.size) : FS W b0 nilS nilS [] [] := ⟨LL.nil _ _ _ _ _ _, World.ownsRow_nil _ _ _ _, h, fun g hg => by cases hg⟩
theorem FS.below {W W' : World} {b0 : Nat} {v vl : Value} {us : List Value} {B : List (List (Int × Int))} (h : FS W b0 v vl us B) (hb : Below W.heap.size W W') : FS W' b0 v vl us B := ⟨h.1.below hb, own_below2 h.2.1 hb, Nat.le_trans h.2.2.1 hb.size, h.2.2.2⟩
theorem infoS : ∃ i, Try.prog.info? 23 = some i ∧ i.zero = some (.slice none 0 0) ∧ i.size = 1 ∧ i.bytes = 24 := by
  have h : (Try.prog.info? 23).map (fun i => (i.zero, i.size, i.bytes)) = some (some (.slice none 0 0), 1, 24) := by kernel_rfl
  obtain ⟨i, hi, hzz⟩ := Option.map_eq_some_iff.1 h
  simp only [Prod.mk.injEq] at hzz
  exact ⟨i, hi, hzz.1, hzz.2.1, hzz.2.2⟩
/-- A new box behind all, nothing in it. -/
theorem FS.push {W : World} {b0 : Nat} {v vl : Value} {us : List Value} {B : List (List (Int × Int))} (h : FS W b0 v vl us B) (hn : B.length ≤ 1000) :
    ∃ G cap w1 gl capl w2, (∀ ty, (Builtin.append_ #[25, 25] ty #[v, .slice (some ⟨W.heap.size, 0, none⟩) 1 1]).run Try.prog (W.alloc (.cells #[.slice none 0 0] 23)) = .ok (.slice (some ⟨G, 0, none⟩) (B.length + 1) cap) w1) ∧
      (∀ ty, (Builtin.append_ #[23, 23] ty #[vl, .slice (some ⟨w1.heap.size, 0, none⟩) 1 1]).run Try.prog (w1.alloc (.cells #[.int .i64 20] 3)) = .ok (.slice (some ⟨gl, 0, none⟩) (B.length + 1) capl) w2) ∧
      FS w2 b0 (.slice (some ⟨G, 0, none⟩) (B.length + 1) cap) (.slice (some ⟨gl, 0, none⟩) (B.length + 1) capl) (us ++ [nilS]) (B ++ [[]]) ∧ Below b0 W w2 := by
  obtain ⟨hL, hO, hb, hA⟩ := h
  have hlen := It.nums_len B
  have hL1 := hL.1
  rw [hlen] at hL1
  obtain ⟨G, cap, w1, r1, o1, g1, f1⟩ := push_9 (x := .slice none 0 0) Try.underlying25 infoS rfl rfl (by omega) hL1 (by omega) hb
  have k1 : ∀ b, b < W.heap.size → some b ≠ v.ownBlock → w1.heap[b]? = W.heap[b]? := fun b hb' hne => (g1.block b (by simp; omega) hne).trans ((below_alloc W _).block b hb')
  have z1 : W.heap.size ≤ w1.heap.size := Nat.le_trans (by simp) g1.size
  have hG : (Value.slice (some ⟨G, 0, none⟩) (B.length + 1) cap).ownBlock = some G := rfl
  have L1 : LL w1 b0 23 3 1 ints (.slice (some ⟨G, 0, none⟩) (B.length + 1) cap) (us ++ [nilS]) (It.nums B ++ [[]]) := by
    refine hL.snoc (r := []) (by rw [hlen]; exact o1) k1 (fun g e => ?_) (World.ownsRow_nil _ _ _ _) (fun g e => by cases e)
    rw [hG] at e; cases e
    rcases f1 with f1 | f1
    · exact Or.inl f1
    · exact Or.inr (by omega)
  have O1 : w1.ownsRow b0 3 1 vl B.length (ints (It.rooms B)) := own_keep2 hO fun g hv hl => k1 g hl (fun e => (hA g hv).1 e.symm)
  obtain ⟨gl, capl, w2, r2, o2, g2, f2⟩ := push_9 (x := .int .i64 20) Try.underlying23 infoI rfl rfl (by omega) O1 (by omega) (Nat.le_trans hb z1)
  have k2 : ∀ b, b < w1.heap.size → some b ≠ vl.ownBlock → w2.heap[b]? = w1.heap[b]? := fun b hb' hne => (g2.block b (by simp; omega) hne).trans ((below_alloc w1 _).block b hb')
  have z2 : w1.heap.size ≤ w2.heap.size := Nat.le_trans (by simp) g2.size
  have hus := L1.len
  have hA1 : ∀ g, vl.ownBlock = some g → G ≠ g ∧ ∀ i, i < B.length + 1 → ((us ++ [nilS]).getD i nilS).ownBlock ≠ some g := fun g hv => by
    refine ⟨fun e => ?_, fun i hi e => ?_⟩
    · subst e
      rcases f1 with f1 | f1
      · exact (hA G hv).1 f1
      · have := (hO.lt G hv).2; omega
    · have hul : us.length = B.length := by have := hL.len; rw [hlen] at this; exact this
      rw [getD_snoc (by omega)] at e
      split at e
      · cases e
      · exact (hA g hv).2 i (by omega) e
  refine ⟨G, cap, w1, gl, capl, w2, r1, r2, ⟨?_, ?_, by omega, fun g e => ?_⟩, ?_⟩
  · rw [It.nums_snoc]
    refine L1.keep2 fun g hl hc => k2 g hl (fun e => ?_)
    obtain ⟨q1, q2⟩ := hA1 g e.symm
    rcases hc with hc | ⟨i, hi, hc⟩
    · rw [hG] at hc; cases hc; exact q1 rfl
    · rw [List.length_append, hlen] at hi
      exact q2 i (by simpa using hi) hc
  · rw [List.length_append, It.rooms_snoc, ints_snoc]; exact o2
  · obtain rfl : gl = g := by simpa [Value.ownBlock] using e
    rw [List.length_append]
    rcases f2 with f2 | f2
    · obtain ⟨q1, q2⟩ := hA1 gl f2
      exact ⟨by rw [hG]; simpa using q1, fun i hi => q2 i (by simpa using hi)⟩
    · refine ⟨?_, fun i hi e2 => ?_⟩
      · rw [hG]; intro e3
        have e4 : G = gl := by simpa using e3
        have := (L1.1.lt G rfl).2; omega
      · have := ((L1.2.1 i (by rw [List.length_append, hlen]; simpa using hi)).lt gl e2).2; omega
  · refine ⟨g2.os.trans g1.os, g2.tape.trans g1.tape, g2.output.trans g1.output, by omega, fun b hb' => ?_⟩
    exact (k2 b (by omega) (fun e => by have := (O1.lt b e.symm).1; omega)).trans (k1 b (by omega) (fun e => by have := (hL1.lt b e.symm).1; omega))
end Go.Proofs.Ytnchkgblpnompaa
