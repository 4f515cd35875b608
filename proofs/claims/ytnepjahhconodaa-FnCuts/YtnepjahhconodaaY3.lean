/-
  In one: Ff13, Fh13, Shelf, Jl0, Wn11, Fg13, Fp13, Fi13, Ft13, Fj13, Fo13, Fq13, Pm, Pn, Fs13, Ga13, Gc13, Fv13, Qa2, Fk13, Gd13, Fu13, Ge13.
-/
import Derived.Test.YtnepjahhconodaaY2
import Derived.Test.YtnepjahhconodaaY1
import Derived.Conc.LoneSelect
import Derived.Conc.LoneCalls
import Derived.Test.YtnepjahhconodaaChecked
import Derived.Shelf.Spec.SlicesInsertGrow
import Derived.Shelf.Bits.Mul64
import Derived.Shelf.Slices.Clone
import Derived.Deep.RegionLaw
import Derived.Laws.CopyRow
import Derived.Deep.AppendSrc
import Derived.Deep.DeepCutAuto
import Derived.BigQuiet
namespace Go.Proofs.Ytnepjahhconodaa.Nt
open Bx (sumTo)

/-- The first so many halls are looked at from hall a: those not come to yet (-2) wait behind. -/
def scanTo (R : List (List Int)) (a : Int) (M Q : List Int) : Nat → List Int × List Int
  | 0 => (M, Q)
  | k + 1 => if (scanTo R a M Q k).1.getD k 0 = -2 ∧ 0 < at2 R a.toNat k then ((scanTo R a M Q k).1.set k a, (scanTo R a M Q k).2 ++ [(k : Int)]) else scanTo R a M Q k
def bfs (R : List (List Int)) (n : Nat) : Nat → List Int → List Int → List Int
  | 0, M, _ => M
  | _ + 1, M, [] => M
  | f + 1, M, a :: Q => bfs R n f (scanTo R a M Q n).1 (scanTo R a M Q n).2
def start (n : Nat) : List Int := (List.replicate n (-2)).set 0 (-1)
/-- From which hall each one is come to: -1 for 0, -2 for those not come to. -/
def come (R : List (List Int)) (n : Nat) : List Int := bfs R n n (start n) [0]
def open2 (M Q : List Int) : Nat := M.count (-2) + Q.length
theorem start_len (n : Nat) : (start n).length = n := by simp [start]
theorem count_set {M : List Int} {k : Nat} {a : Int} (hk : k < M.length) (h : M.getD k 0 = -2) (ha : a ≠ -2) : (M.set k a).count (-2) + 1 = M.count (-2) := by
  induction M generalizing k with
  | nil => simp at hk
  | cons x M ih =>
    cases k with
    | zero =>
      simp at h
      subst h
      simp [ha]
    | succ k =>
      have := ih (k := k) (by simpa using hk) (by simpa using h)
      simp only [List.set_cons_succ, List.count_cons]
      omega
theorem scan_len (R : List (List Int)) (a : Int) (M Q : List Int) : ∀ k, (scanTo R a M Q k).1.length = M.length
  | 0 => rfl
  | k + 1 => by
    rw [scanTo]
    split
    · rw [List.length_set, scan_len R a M Q k]
    · exact scan_len R a M Q k
theorem scan_open {R : List (List Int)} {a : Int} {M Q : List Int} (ha : 0 ≤ a) : ∀ k, k ≤ M.length → open2 (scanTo R a M Q k).1 (scanTo R a M Q k).2 = open2 M Q
  | 0, _ => rfl
  | k + 1, hk => by
    have ih := scan_open (R := R) (a := a) (M := M) (Q := Q) ha k (by omega)
    rw [scanTo]
    split
    · next h =>
      have := count_set (a := a) (by rw [scan_len]; omega) h.1 (by omega)
      unfold open2 at ih ⊢
      simp only [List.length_append, List.length_cons, List.length_nil]
      omega
    · exact ih
theorem start_open {n : Nat} (hn : 0 < n) : open2 (start n) [0] = n := by
  have h1 := count_set (M := List.replicate n (-2)) (k := 0) (a := -1) (by simpa using hn) (by simp [hn]) (by omega)
  rw [List.count_replicate_self] at h1
  unfold open2 start
  simp only [List.length_cons, List.length_nil]
  omega
theorem open_pos {M Q : List Int} {k : Nat} (hk : k < M.length) (h : M.getD k 0 = -2) : Q.length + 1 ≤ open2 M Q := by
  have : 0 < M.count (-2) := List.count_pos_iff.2 (by rw [← h, Pf.getD_lt _ _ hk]; exact List.getElem_mem hk)
  unfold open2; omega
/-- What holds on the way: H are all that came, the first i of them are done, the next one up to k. -/
structure Bi (R : List (List Int)) (n : Nat) (M H : List Int) (i k : Nat) : Prop where
  len : M.length = n
  pos : 0 < H.length
  h0 : H.getD 0 0 = 0
  lo : ∀ j, j < H.length → 0 ≤ H.getD j 0 ∧ H.getD j 0 < n
  nd : ∀ j l, j < H.length → l < H.length → j ≠ l → H.getD j 0 ≠ H.getD l 0
  m0 : M.getD 0 0 = -1
  mem : ∀ b, b < n → (M.getD b 0 ≠ -2 ↔ ∃ j, j < H.length ∧ H.getD j 0 = (b : Int))
  par : ∀ j, 0 < j → j < H.length → ∃ l, l < j ∧ M.getD (H.getD j 0).toNat 0 = H.getD l 0 ∧ 0 < at2 R (H.getD l 0).toNat (H.getD j 0).toNat
  done : ∀ l, l < i → ∀ b, b < n → 0 < at2 R (H.getD l 0).toNat b → M.getD b 0 ≠ -2
  cur : ∀ b, b < k → 0 < at2 R (H.getD i 0).toNat b → M.getD b 0 ≠ -2
theorem snoc_lt {l : List Int} {x : Int} {j : Nat} (h : j < l.length) : (l ++ [x]).getD j 0 = l.getD j 0 := by simp [List.getElem?_append_left h]
theorem snoc_end {l : List Int} {x : Int} : (l ++ [x]).getD l.length 0 = x := by simp
theorem set_self {M : List Int} {k : Nat} {a : Int} (h : k < M.length) : (M.set k a).getD k 0 = a := by simp [h]
theorem set_else {M : List Int} {k b : Nat} {a : Int} (h : b ≠ k) : (M.set k a).getD b 0 = M.getD b 0 := by simp [List.getElem?_set_ne (Ne.symm h)]
theorem Bi.step_no {R : List (List Int)} {n i k : Nat} {M H : List Int} (h : Bi R n M H i k) (hno : ¬ (M.getD k 0 = -2 ∧ 0 < at2 R (H.getD i 0).toNat k)) : Bi R n M H i (k + 1) :=
  ⟨h.len, h.pos, h.h0, h.lo, h.nd, h.m0, h.mem, h.par, h.done, fun b hb hr => by
    by_cases e : b = k
    · subst e; exact fun h2 => hno ⟨h2, hr⟩
    · exact h.cur b (by omega) hr⟩
theorem Bi.step_yes {R : List (List Int)} {n i k : Nat} {M H : List Int} (h : Bi R n M H i k) (hi : i < H.length) (hk : k < n) (hy : M.getD k 0 = -2 ∧ 0 < at2 R (H.getD i 0).toNat k) : Bi R n (M.set k (H.getD i 0)) (H ++ [(k : Int)]) i (k + 1) := by
  have hkM : k < M.length := by rw [h.len]; exact hk
  have hk0 : k ≠ 0 := fun e => by have := h.m0; rw [e] at hy; rw [hy.1] at this; omega
  have hnew : ∀ j, j < H.length → H.getD j 0 ≠ (k : Int) := fun j hj e => (h.mem k hk).2 ⟨j, hj, e⟩ hy.1
  have ha := h.lo i hi
  have old : ∀ b, b ≠ k → (M.set k (H.getD i 0)).getD b 0 = M.getD b 0 := fun b hb => set_else hb
  have big : ∀ b, M.getD b 0 ≠ -2 → (M.set k (H.getD i 0)).getD b 0 ≠ -2 := fun b hb => by
    by_cases e : b = k
    · subst e; exact absurd hy.1 hb
    · rw [old b e]; exact hb
  refine ⟨by rw [List.length_set]; exact h.len, by simp, by rw [snoc_lt h.pos]; exact h.h0, fun j hj => ?_, fun j l hj hl hne => ?_, by rw [old 0 (Ne.symm hk0)]; exact h.m0, fun b hb => ?_, fun j h0 hj => ?_, fun l hl b hb hr => ?_, fun b hb hr => ?_⟩
  · simp only [List.length_append, List.length_cons, List.length_nil] at hj
    by_cases e : j = H.length
    · subst e; rw [snoc_end]; omega
    · rw [snoc_lt (by omega)]; exact h.lo j (by omega)
  · simp only [List.length_append, List.length_cons, List.length_nil] at hj hl
    by_cases e1 : j = H.length
    · subst e1
      rw [snoc_end, snoc_lt (by omega)]
      exact fun e => hnew l (by omega) e.symm
    · by_cases e2 : l = H.length
      · subst e2
        rw [snoc_end, snoc_lt (by omega)]
        exact hnew j (by omega)
      · rw [snoc_lt (by omega), snoc_lt (by omega)]; exact h.nd j l (by omega) (by omega) hne
  · by_cases e : b = k
    · subst e
      refine ⟨fun _ => ⟨H.length, by simp, snoc_end⟩, fun _ => ?_⟩
      rw [set_self hkM]; omega
    · rw [old b e, h.mem b hb]
      refine ⟨fun ⟨j, hj, ej⟩ => ⟨j, by simp; omega, by rw [snoc_lt hj]; exact ej⟩, fun ⟨j, hj, ej⟩ => ?_⟩
      simp only [List.length_append, List.length_cons, List.length_nil] at hj
      by_cases e2 : j = H.length
      · subst e2; rw [snoc_end] at ej; omega
      · rw [snoc_lt (by omega)] at ej; exact ⟨j, by omega, ej⟩
  · simp only [List.length_append, List.length_cons, List.length_nil] at hj
    by_cases e : j = H.length
    · subst e
      refine ⟨i, hi, ?_, ?_⟩
      · rw [snoc_end, Int.toNat_natCast, set_self hkM, snoc_lt hi]
      · rw [snoc_end, Int.toNat_natCast, snoc_lt hi]; exact hy.2
    · obtain ⟨l, hl, e1, e2⟩ := h.par j h0 (by omega)
      refine ⟨l, hl, ?_, ?_⟩
      · rw [snoc_lt (by omega), snoc_lt (by omega), old _ (fun e' => hnew j (by omega) (by have := h.lo j (by omega); omega))]; exact e1
      · rw [snoc_lt (by omega), snoc_lt (by omega)]; exact e2
  · rw [snoc_lt (by omega)] at hr
    exact big b (h.done l hl b hb hr)
  · rw [snoc_lt hi] at hr
    by_cases e : b = k
    · subst e; rw [set_self hkM]; omega
    · exact big b (h.cur b (by omega) hr)
theorem Bi.scan {R : List (List Int)} {n i : Nat} {M H Q : List Int} (h : Bi R n M H i 0) (hi : i < H.length) (hQ : Q = H.drop (i + 1)) : ∀ k, k ≤ n → ∃ H', Bi R n (scanTo R (H.getD i 0) M Q k).1 H' i k ∧ (scanTo R (H.getD i 0) M Q k).2 = H'.drop (i + 1) ∧ i < H'.length ∧ H'.getD i 0 = H.getD i 0
  | 0, _ => ⟨H, h, hQ, hi, rfl⟩
  | k + 1, hk => by
    obtain ⟨H', h1, h2, h3, h4⟩ := Bi.scan h hi hQ k (by omega)
    rw [scanTo]
    split
    · next hy =>
      refine ⟨H' ++ [(k : Int)], ?_, ?_, by simp; omega, by rw [snoc_lt h3]; exact h4⟩
      · have := h1.step_yes h3 (by omega) (by rw [h4]; exact hy)
        rw [h4] at this
        exact this
      · show (scanTo R (H.getD i 0) M Q k).2 ++ [(k : Int)] = (H' ++ [(k : Int)]).drop (i + 1)
        rw [h2, List.drop_append_of_le_length (by omega)]
    · next hn => exact ⟨H', h1.step_no (by rw [h4]; exact hn), h2, h3, h4⟩
theorem Bi.pop {R : List (List Int)} {n i : Nat} {M H : List Int} (h : Bi R n M H i n) : Bi R n M H (i + 1) 0 :=
  ⟨h.len, h.pos, h.h0, h.lo, h.nd, h.m0, h.mem, h.par, fun l hl b hb hr => by
    by_cases e : l = i
    · subst e; exact h.cur b hb hr
    · exact h.done l (by omega) b hb hr, fun b hb => absurd hb (Nat.not_lt_zero _)⟩
theorem bfs_inv {R : List (List Int)} {n : Nat} : ∀ f {M Q H : List Int} {i : Nat}, Bi R n M H i 0 → i ≤ H.length → Q = H.drop i → open2 M Q ≤ f → ∃ H', Bi R n (bfs R n f M Q) H' H'.length 0
  | 0, M, Q, H, i, h, hi, hQ, hf => by
    have hq : Q.length = 0 := by unfold open2 at hf; omega
    have : i = H.length := by rw [hQ, List.length_drop] at hq; omega
    exact ⟨H, this ▸ h⟩
  | f + 1, M, [], H, i, h, hi, hQ, _ => by
    have : i = H.length := by
      have : (H.drop i).length = 0 := by rw [← hQ]; rfl
      rw [List.length_drop] at this; omega
    exact ⟨H, this ▸ h⟩
  | f + 1, M, a :: Q, H, i, h, hi, hQ, hf => by
    have hlt : i < H.length := by
      have : (H.drop i).length = Q.length + 1 := by rw [← hQ]; rfl
      rw [List.length_drop] at this; omega
    rw [List.drop_eq_getElem_cons hlt] at hQ
    have ea : a = H.getD i 0 := by rw [Pf.getD_lt _ _ hlt]; exact (List.cons.inj hQ).1
    have eQ : Q = H.drop (i + 1) := (List.cons.inj hQ).2
    obtain ⟨H', h1, h2, h3, _⟩ := h.scan hlt eQ n (Nat.le_refl _)
    rw [← ea] at h1 h2
    rw [bfs]
    refine bfs_inv f h1.pop (by omega) h2 ?_
    have h0 := h.lo i hlt
    rw [scan_open (by omega) n (by rw [h.len]; exact Nat.le_refl _)]
    unfold open2 at hf ⊢
    simp only [List.length_cons] at hf
    omega
theorem come_inv (R : List (List Int)) {n : Nat} (hn : 0 < n) : ∃ H, Bi R n (come R n) H H.length 0 := by
  refine bfs_inv n (H := [0]) (i := 0) ⟨start_len n, by simp, rfl, fun j hj => ?_, fun j l hj hl hne => ?_, by simp [start, hn], fun b hb => ?_, fun j h0 hj => ?_, fun l hl => absurd hl (Nat.not_lt_zero _), fun b hb => absurd hb (Nat.not_lt_zero _)⟩ (by simp) rfl (by rw [start_open hn]; exact Nat.le_refl _)
  · simp at hj; subst hj; simp; omega
  · simp at hj hl; omega
  · unfold start
    by_cases e : b = 0
    · subst e
      refine ⟨fun _ => ⟨0, by simp, rfl⟩, fun _ => ?_⟩
      rw [set_self (by simpa using hn)]; omega
    · rw [set_else e]
      refine ⟨fun h => absurd (by simp [hb]) h, fun ⟨j, hj, ej⟩ => ?_⟩
      simp at hj; subst hj; simp at ej; omega
  · simp at hj; omega
/-- From hall at back to hall 0, put ahead of out. -/
def back (M : List Int) : Nat → Int → List Int → List Int
  | 0, _, out => out
  | f + 1, p, out => if p < 0 then out else back M f (M.getD p.toNat 0) (p :: out)
def wayM (M : List Int) (n : Nat) : List Int := if M.getD (n - 1) 0 = -2 then [] else back M (n + 1) ((n : Int) - 1) []
structure Pth (R : List (List Int)) (n : Nat) (M H : List Int) (j : Nat) (P : List Int) : Prop where
  back : ∀ f out, j + 2 ≤ f → Nt.back M f (H.getD j 0) out = P ++ out
  len : 0 < P.length
  first : P.getD 0 0 = 0
  last : P.getD (P.length - 1) 0 = H.getD j 0
  mem : ∀ t, t < P.length → ∃ l, l ≤ j ∧ P.getD t 0 = H.getD l 0
  ne : ∀ t s, t < P.length → s < P.length → t ≠ s → P.getD t 0 ≠ P.getD s 0
  room : ∀ t, t + 1 < P.length → 0 < at2 R (P.getD t 0).toNat (P.getD (t + 1) 0).toNat
theorem path {R : List (List Int)} {n : Nat} {M H : List Int} (h : Bi R n M H H.length 0) : ∀ m j, j < m → j < H.length → ∃ P, Pth R n M H j P
  | 0, j, hj, _ => absurd hj (Nat.not_lt_zero _)
  | m + 1, j, hj, hl => by
    have hp := h.lo j hl
    by_cases e : j = 0
    · subst e
      refine ⟨[0], fun f out hf => ?_, by simp, rfl, h.h0.symm, fun t ht => ⟨0, Nat.le_refl _, by simp at ht; subst ht; exact h.h0.symm⟩, fun t s ht hs hne => by simp at ht hs; omega, fun t ht => by simp at ht⟩
      obtain ⟨f, rfl⟩ : ∃ g, f = g + 2 := ⟨f - 2, by omega⟩
      rw [h.h0, Nt.back, if_neg (by omega), Nt.back, if_pos (by rw [show (0 : Int).toNat = 0 from rfl, h.m0]; omega)]
      rfl
    · obtain ⟨l, hlj, e1, e2⟩ := h.par j (by omega) hl
      obtain ⟨P, hP⟩ := path h m l (by omega) (by omega)
      refine ⟨P ++ [H.getD j 0], fun f out hf => ?_, by simp, by rw [snoc_lt hP.len]; exact hP.first, by simp, fun t ht => ?_, fun t s ht hs hne => ?_, fun t ht => ?_⟩
      · obtain ⟨f, rfl⟩ : ∃ g, f = g + 1 := ⟨f - 1, by omega⟩
        rw [Nt.back, if_neg (by omega), e1, hP.back f _ (by omega)]
        simp
      · simp only [List.length_append, List.length_cons, List.length_nil] at ht
        by_cases e3 : t = P.length
        · subst e3; exact ⟨j, Nat.le_refl _, snoc_end⟩
        · obtain ⟨q, hq, eq⟩ := hP.mem t (by omega)
          exact ⟨q, by omega, by rw [snoc_lt (by omega)]; exact eq⟩
      · have off : ∀ t, t < P.length → P.getD t 0 ≠ H.getD j 0 := fun t ht => by
          obtain ⟨q, hq, eq⟩ := hP.mem t ht
          rw [eq]; exact h.nd q j (by omega) hl (by omega)
        simp only [List.length_append, List.length_cons, List.length_nil] at ht hs
        by_cases e3 : t = P.length
        · subst e3
          rw [snoc_end, snoc_lt (by omega)]
          exact Ne.symm (off s (by omega))
        · by_cases e4 : s = P.length
          · subst e4
            rw [snoc_end, snoc_lt (by omega)]; exact off t (by omega)
          · rw [snoc_lt (by omega), snoc_lt (by omega)]; exact hP.ne t s (by omega) (by omega) hne
      · simp only [List.length_append, List.length_cons, List.length_nil] at ht
        rw [snoc_lt (by omega)]
        by_cases e3 : t + 1 = P.length
        · rw [e3, snoc_end, show t = P.length - 1 by omega, hP.last]; exact e2
        · rw [snoc_lt (by omega)]; exact hP.room t (by omega)
/-- The way that is found is one. -/
theorem way_is {R : List (List Int)} {n : Nat} (hn : 2 ≤ n) (h : (come R n).getD (n - 1) 0 ≠ -2) : Way R n (wayM (come R n) n) := by
  obtain ⟨H, hb⟩ := come_inv R (n := n) (by omega)
  obtain ⟨j, hj, ej⟩ := (hb.mem (n - 1) (by omega)).1 h
  obtain ⟨P, hP⟩ := path hb (j + 1) j (by omega) hj
  have hfew : H.length ≤ n := few hb.lo hb.nd
  have e : wayM (come R n) n = P := by
    rw [wayM, if_neg h, show ((n : Int) - 1) = H.getD j 0 by rw [ej]; omega, hP.back (n + 1) [] (by omega), List.append_nil]
  rw [e]
  have hlast : P.getD (P.length - 1) 0 = (n : Int) - 1 := by rw [hP.last, ej]; omega
  have hl2 : 2 ≤ P.length := by
    have h0 := hP.len
    by_cases h1 : P.length = 1
    · rw [h1, hP.first] at hlast; omega
    · omega
  refine ⟨hl2, hP.first, hlast, fun i hi => ?_, hP.ne, hP.room⟩
  obtain ⟨l, hl, el⟩ := hP.mem i hi
  rw [el]; exact hb.lo l (by omega)
theorem way_no {M : List Int} {n : Nat} (h : M.getD (n - 1) 0 = -2) : wayM M n = [] := by rw [wayM, if_pos h]
/-- The way through the rooms of a flow, none where there is none. -/
def wayOf (W F : List (List Int)) : List Int := wayM (come (rooms W F) W.length) W.length
theorem wayOf_nil {W F : List (List Int)} (hn : 2 ≤ W.length) : wayOf W F = [] ↔ (come (rooms W F) W.length).getD (W.length - 1) 0 = -2 := by
  refine ⟨fun h => Classical.byContradiction fun hc => ?_, fun h => way_no h⟩
  have := (way_is hn hc).len
  rw [show wayM (come (rooms W F) W.length) W.length = [] from h] at this
  simp at this
theorem wayOf_is {W F : List (List Int)} (hn : 2 ≤ W.length) (h : wayOf W F ≠ []) : Way (rooms W F) W.length (wayOf W F) := way_is hn fun e => h ((wayOf_nil hn).2 e)
/-- The least of a list. -/
def lstTo (r : List Int) : Nat → Int
  | 0 => r.getD 0 0
  | k + 1 => min (lstTo r k) (r.getD k 0)
def lst (r : List Int) : Int := lstTo r r.length
theorem lstTo_le (r : List Int) : ∀ k i, i < k → lstTo r k ≤ r.getD i 0
  | 0, i, h => absurd h (Nat.not_lt_zero _)
  | k + 1, i, h => by
    rw [lstTo]
    by_cases e : i = k
    · subst e; omega
    · have := lstTo_le r k i (by omega); omega
theorem lstTo_is (r : List Int) : ∀ k, k ≤ r.length → 0 < r.length → ∃ i, i < r.length ∧ lstTo r k = r.getD i 0
  | 0, _, h => ⟨0, h, rfl⟩
  | k + 1, hk, h => by
    obtain ⟨i, hi, e⟩ := lstTo_is r k (by omega) h
    rw [lstTo]
    by_cases hc : lstTo r k ≤ r.getD k 0
    · exact ⟨i, hi, by rw [Int.min_eq_left hc]; exact e⟩
    · exact ⟨k, by omega, by rw [Int.min_eq_right (by omega)]⟩
/-- How much goes along a way. -/
def byI (W F : List (List Int)) (P : List Int) : Int := lst (along (rooms W F) P)
theorem by_facts {W F : List (List Int)} {P : List Int} (hf : NF W F) (hw : Way (rooms W F) W.length P) : 1 ≤ byI W F P ∧ byI W F P ≤ 100 ∧ ∀ i, i + 1 < P.length → byI W F P ≤ roomAt W F (P.getD i 0).toNat (P.getD (i + 1) 0).toNat := by
  have h2 := hw.len
  have hal := along_len (rooms W F) P
  obtain ⟨i, hi, e⟩ := lstTo_is (along (rooms W F) P) (along (rooms W F) P).length (Nat.le_refl _) (by omega)
  have ei := along_at (rooms W F) P (i := i) (by omega)
  have hr := hw.room i (by omega)
  have l1 := hw.lo i (by omega)
  have l2 := hw.lo (i + 1) (by omega)
  have hb := hf.room_bd (i := (P.getD i 0).toNat) (k := (P.getD (i + 1) 0).toNat) (by omega) (by omega)
  rw [rooms_at W F (by omega) (by omega)] at hr ei
  have eb : byI W F P = roomAt W F (P.getD i 0).toNat (P.getD (i + 1) 0).toNat := by rw [byI, lst, e, ei]
  refine ⟨by omega, by omega, fun j hj => ?_⟩
  have := lstTo_le (along (rooms W F) P) (along (rooms W F) P).length j (by omega)
  rw [along_at _ _ hj] at this
  have m1 := hw.lo j (by omega)
  have m2 := hw.lo (j + 1) (by omega)
  rw [rooms_at W F (by omega) (by omega)] at this
  exact this
/-- Pushed as long as there is a way. -/
def mf (W : List (List Int)) : Nat → List (List Int) → List (List Int)
  | 0, F => F
  | f + 1, F => if wayOf W F = [] then F else mf W f (pushL (byI W F (wayOf W F)) F (wayOf W F))
def mostL (W : List (List Int)) : List (List Int) := mf W 401 (zeros W.length)
theorem value_bd {W F : List (List Int)} (h : NF W F) : outI F 0 ≤ 400 := by
  have hl := rowsB_len h.rows
  rw [outI, Fl.ex]
  have := sumTo_bd (f := fun k => at2 F 0 k - at2 F k 0) (lo := -50) (hi := 50) F.length fun i hi => by
    have h1 := rowsB_bd h.rows (i := 0) (k := i) (by omega) hi
    have h2 := rowsB_bd h.rows (i := i) (k := 0) hi (by omega)
    show -50 ≤ at2 F 0 i - at2 F i 0 ∧ at2 F 0 i - at2 F i 0 ≤ 50
    omega
  omega
theorem next_nf {W F : List (List Int)} (h : NF W F) (hw : wayOf W F ≠ []) : NF W (pushL (byI W F (wayOf W F)) F (wayOf W F)) ∧ outI F 0 + 1 ≤ outI (pushL (byI W F (wayOf W F)) F (wayOf W F)) 0 := by
  have h2 := (rowsB_len (netB_rows h.net)).1
  have hw' := wayOf_is h2 hw
  obtain ⟨b1, _, b3⟩ := by_facts h hw'
  obtain ⟨p1, p2⟩ := push_nf h hw' (by omega) b3
  exact ⟨p1, by rw [p2]; omega⟩
theorem mf_inv {W : List (List Int)} : ∀ (f : Nat) {F : List (List Int)}, NF W F → 400 - outI F 0 < f → NF W (mf W f F) ∧ wayOf W (mf W f F) = []
  | 0, F, h, hf => by have := value_bd h; omega
  | f + 1, F, h, hf => by
    rw [mf]
    split
    · next e => exact ⟨h, e⟩
    · next e =>
      obtain ⟨n1, n2⟩ := next_nf h e
      exact mf_inv f n1 (by omega)
theorem zeros_out (n : Nat) : outI (zeros n) 0 = 0 := by rw [outI]; exact ex_zero (fun a b => zeros_at _ a b) 0
theorem most_inv {W : List (List Int)} (h : netB W = true) : NF W (mostL W) ∧ wayOf W (mostL W) = [] := mf_inv 401 (zeros_nf h) (by rw [zeros_out]; omega)
/-- The halls come to. -/
def sideL (M : List Int) : List Int := ((List.range M.length).filter fun b => M.getD b 0 != -2).map fun (b : Nat) => (b : Int)
def sideTo (M : List Int) (k : Nat) : List Int := ((List.range k).filter fun b => M.getD b 0 != -2).map fun (b : Nat) => (b : Int)
theorem sideTo_succ (M : List Int) (k : Nat) : sideTo M (k + 1) = if M.getD k 0 = -2 then sideTo M k else sideTo M k ++ [(k : Int)] := by
  unfold sideTo
  rw [List.range_succ, List.filter_append, List.map_append]
  by_cases h : M.getD k 0 = -2
  · rw [if_pos h, List.filter_cons_of_neg (by rw [h]; decide)]; simp
  · rw [if_neg h, List.filter_cons_of_pos (by simpa using h)]; simp
end Go.Proofs.Ytnepjahhconodaa.Nt
namespace Go.Proofs.Ytnepjahhconodaa
open Go.Conc Go.RowKit

/-- What waits in a line, the first one in first. -/
def qv (Q : List Int) : Array Value := (ints Q).toArray
theorem bytes13 : ∃ i, Try.prog.info? 3 = some i ∧ i.bytes = 8 := by
  have h : (Try.prog.info? 3).map (·.bytes) = some 8 := by kernel_rfl
  obtain ⟨i, hi, hb⟩ := Option.map_eq_some_iff.1 h
  exact ⟨i, hi, hb⟩
theorem mkc13 (n : Nat) (hn : n ≤ 1000) (w : World) : (Instr.makeChan 55 (.int .i64 (n : Int))).run Try.prog w = .ok (.chan (some w.heap.size)) (w.alloc (.chan n #[] false 0 0 false)) := by
  obtain ⟨i, hi, hb⟩ := bytes13
  exact run_makeChan (P := Try.prog) (w := w) Try.underlying55 hi .i64 n (by omega) (by rw [hb]; omega)
set_option maxRecDepth 100000 in
set_option maxHeartbeats 400000 in
theorem nhl_any {n : Nat} {w : World} (hn : n ≤ 1000) :
    Calls Try.prog 35 #[.int .i64 (n : Int)] w fun e w' => e = .returned (.chan (some w.heap.size)) ∧ w' = w.alloc (.chan n #[] false 0 0 false) := by
  have hmc := mkc13 n hn
  go_enter Try.func35, Try.ntmps35
  go_wp2_with fail
  go_ret
  exact ⟨rfl, rfl⟩
set_option maxRecDepth 100000 in
theorem add13 {c cap s r : Nat} {Q : List Int} {x : Int} {w : World} (hc : w.heap[c]? = some (.chan cap (qv Q) false s r false)) (hr : Q.length < cap) :
    Calls Try.prog 36 #[.chan (some c), .int .i64 x] w fun e w' => e = .returned (.tuple #[]) ∧ w' = w.setChan c cap (qv (Q ++ [x])) false (s + 1) r false := by
  have hq : qv (Q ++ [x]) = (qv Q).push (.int .i64 x) := by simp [qv, ints]
  rw [hq]
  refine calls_of_loneTo fun cs => ?_
  have e : Frame.enter Try.prog 36 #[.chan (some c), .int .i64 x] .normal = (base 36).at ⟨#[.chan (some c), .int .i64 x, undef, undef, undef, undef], []⟩ [.code (Try.f36.body.getD .skip)] := by
    simp [Frame.enter, Frame.at, Try.func36, base, Try.f36]
  rw [e]
  refine LoneTo.goes (n := 3) ?_
  simp only [Try.f36, Option.getD_some]
  s_reg
  s_op
  s_op
  s_stop
  refine LoneTo.step (step_lone_send_room (c := c) (cap := cap) (buf := qv Q) (s := s) (r := r) (tm := false) (stepG_comm (cases := #[scase c (.int .i64 x) (.tuple #[])]) (blocking := true) (shape := .send) (w' := w) rfl rfl (by decide) (by simp [execOp, scase, Act.eval])) hc (by simpa [qv, ints] using hr)) ?_
  rw [Frame.finish_at]
  walk_nrm
  refine LoneTo.goes (n := 2) ?_
  s_c stepG_region_end
  s_c stepG_end
  s_stop
  refine LoneTo.done ⟨.returned (.tuple #[]), _, rfl, ⟨rfl, rfl⟩, rfl, rfl, rfl, rfl, _, Try.func36, by simp [results, Try.f36, Frame.at]⟩
set_option maxRecDepth 100000 in
theorem next13_no {c cap s r : Nat} {w : World} (hc : w.heap[c]? = some (.chan cap (qv []) false s r false)) :
    Calls Try.prog 37 #[.chan (some c)] w fun e w' => e = .returned (.tuple #[.int .i64 (-1), .bool false]) ∧ w' = w := by
  refine calls_of_loneTo fun cs => ?_
  have e : Frame.enter Try.prog 37 #[.chan (some c)] .normal = (base 37).at ⟨#[.chan (some c), undef, undef, undef, undef, undef, undef, undef, undef, undef, undef], []⟩ [.code (Try.f37.body.getD .skip)] := by
    simp [Frame.enter, Frame.at, Try.func37, base, Try.f37]
    first | done | rfl
  rw [e]
  refine LoneTo.goes (n := 11) ?_
  simp only [Try.f37, Option.getD_some]
  s_c stepG_seq
  s_reg
  s_op
  s_op
  s_c stepG_region_end
  s_c stepG_seq
  s_reg
  s_op
  s_c stepG_region_end
  s_c stepG_seq
  s_reg
  s_stop
  refine LoneTo.step (step_lone_select_default (c := c) (z := .int .i64 0) (cap := cap) (s := s) (r := r) (tm := false) (stepG_comm (cases := #[rcase c (.int .i64 0)]) (blocking := false) (shape := .select) (w' := w) rfl rfl (by decide) (by simp [go_sem, execOp, rcase, Act.eval])) hc) ?_
  rw [Frame.finish_at]
  walk_nrm
  refine LoneTo.goes (n := 11) ?_
  s_op
  s_op
  s_c stepG_region_end
  s_c stepG_block
  s_cond false
  s_c stepG_seq
  s_reg
  s_op
  s_op
  s_c stepG_region_end
  s_c stepG_ret'
  s_stop
  refine LoneTo.done ⟨.returned (.tuple #[.int .i64 (-1), .bool false]), _, rfl, ⟨rfl, rfl⟩, rfl, rfl, rfl, rfl, _, Try.func37, by simp [results, Try.f37, Frame.at]⟩
set_option maxRecDepth 100000 in
theorem next13_yes {c cap s r : Nat} {Q : List Int} {x : Int} {w : World} (hc : w.heap[c]? = some (.chan cap (qv (x :: Q)) false s r false)) :
    Calls Try.prog 37 #[.chan (some c)] w fun e w' => e = .returned (.tuple #[.int .i64 x, .bool true]) ∧ w' = w.setChan c cap (qv Q) false s (r + 1) false := by
  have hq : (qv (x :: Q)).extract 1 (qv (x :: Q)).size = qv Q := by
    simp [qv, ints]
    exact List.take_of_length_le (by simp)
  have hg : (qv (x :: Q)).getD 0 undef = .int .i64 x := by simp [qv, ints]
  refine calls_of_loneTo fun cs => ?_
  have e : Frame.enter Try.prog 37 #[.chan (some c)] .normal = (base 37).at ⟨#[.chan (some c), undef, undef, undef, undef, undef, undef, undef, undef, undef, undef], []⟩ [.code (Try.f37.body.getD .skip)] := by
    simp [Frame.enter, Frame.at, Try.func37, base, Try.f37]
    first | done | rfl
  rw [e]
  refine LoneTo.goes (n := 11) ?_
  simp only [Try.f37, Option.getD_some]
  s_c stepG_seq
  s_reg
  s_op
  s_op
  s_c stepG_region_end
  s_c stepG_seq
  s_reg
  s_op
  s_c stepG_region_end
  s_c stepG_seq
  s_reg
  s_stop
  refine LoneTo.step (step_lone_select_recv_buf (c := c) (z := .int .i64 0) (cap := cap) (s := s) (r := r) (tm := false) (stepG_comm (cases := #[rcase c (.int .i64 0)]) (blocking := false) (shape := .select) (w' := w) rfl rfl (by decide) (by simp [go_sem, execOp, rcase, Act.eval])) hc (by simp [qv, ints])) ?_
  rw [Frame.finish_at, hq, hg]
  walk_nrm
  refine LoneTo.goes (n := 17) ?_
  s_op
  s_op
  s_c stepG_region_end
  s_c stepG_block
  s_cond true
  s_c stepG_seq
  s_reg
  s_op
  s_op
  s_c stepG_region_end
  s_c stepG_seq
  s_reg
  s_op
  s_op
  s_op
  s_c stepG_region_end
  s_c stepG_ret'
  s_stop
  refine LoneTo.done ⟨.returned (.tuple #[.int .i64 x, .bool true]), _, rfl, ⟨rfl, rfl⟩, rfl, rfl, rfl, rfl, _, Try.func37, by simp [results, Try.f37, Frame.at]⟩
end Go.Proofs.Ytnepjahhconodaa
namespace Go.Proofs
open Go.Shelf
def Try.lays212_ren : Go.Shelf.Ren := ⟨fun | 212 => 56 | 263 => 64 | 264 => 65 | n => n, fun | 46 => 72 | 51 => 79 | 146 => 80 | 53 => 45 | 148 => 82 | n => n, fun | n => n⟩
theorem Try.lays212 : Go.Proofs.Lays.n212 Try.prog Try.lays212_ren := {
  mixed := by kernel_rfl
  f212 := Try.func56.trans (congrArg some (by kernel_rfl))
  f263 := Try.func64.trans (congrArg some (by kernel_rfl))
  f264 := Try.func65.trans (congrArg some (by kernel_rfl))
  t46 := Try.underlying72
  a46 := Try.isAgg72
  z46 := Try.sizeOf72
  v46 := Try.zeroValue72
  t51 := Try.underlying79
  a51 := Try.isAgg79
  z51 := Try.sizeOf79
  v51 := Try.zeroValue79
  t53 := Try.underlying45
  a53 := Try.isAgg45
  z53 := Try.sizeOf45
  v53 := Try.zeroValue45
  t146 := Try.underlying80
  a146 := Try.isAgg80
  z146 := Try.sizeOf80
  v146 := Try.zeroValue80
  t148 := Try.underlying82
  a148 := Try.isAgg82
  z148 := Try.sizeOf82
  v148 := Try.zeroValue82 }
open Go.RowKit Go.Lib in
theorem Try.bits_Mul (x y : Nat) (hx : x < 18446744073709551616) (hy : y < 18446744073709551616) (w : World) :
    Calls Try.prog 56 #[.int .u64 x, .int .u64 y] w fun e w' => e = .returned (.tuple #[.int .u64 ((x * y / 18446744073709551616 : Nat) : Int), .int .u64 ((x * y % 18446744073709551616 : Nat) : Int)]) ∧ w' = w := Any.bits_Mul Try.lays212 x y hx hy w
def Try.laysNm215_ren : Go.Shelf.Ren := ⟨fun | 15 => 58 | n => n, fun | 22 => 25 | 3 => 3 | 4 => 4 | n => n, fun | n => n⟩
theorem Try.laysNm215 : Go.Proofs.Lays2.n15 Try.prog Try.laysNm215_ren := {
  mixed := by kernel_rfl
  f15 := Try.func58.trans (congrArg some (by kernel_rfl))
  t3 := Try.underlying3
  a3 := Try.isAgg3
  z3 := Try.sizeOf3
  v3 := Try.zeroValue3
  t4 := Try.underlying4
  a4 := Try.isAgg4
  z4 := Try.sizeOf4
  v4 := Try.zeroValue4
  t22 := Try.underlying25
  a22 := Try.isAgg25
  z22 := Try.sizeOf25
  v22 := Try.zeroValue25
  i3 := by kernel_rfl }
open Go.RowKit Go.Lib in
theorem Try.slices_Clone_int (b off n c : Nat) (zs : List Int) (w : World) (hz : n ≤ zs.length) (hbig : n * 8 ≤ 140737488355328) (hc : ∀ j, j < zs.length → w.cell? ⟨b, off + j, none⟩ = some (.int .i64 (zs.getD j 0))) :
    Calls Try.prog 58 #[.slice (some ⟨b, off, none⟩) n c] w fun e w' => ∃ v', e = .returned v' ∧ w'.ownsRow w.heap.size 3 1 v' n ((zs.take n).map (Value.int .i64)) ∧ v' ≠ .slice none 0 0 ∧ Below w.heap.size w w' := Any.slices_Clone_int Try.laysNm215 b off n c zs w hz hbig hc
def Try.lays2n21_ren : Go.Shelf.Ren := ⟨fun | 21 => 57 | 27 => 66 | 28 => 67 | 35 => 68 | 39 => 69 | n => n, fun | 22 => 25 | 3 => 3 | 4 => 4 | 0 => 0 | n => n, fun | n => n⟩
theorem Try.lays2n21 : Go.Proofs.Lays2.n21 Try.prog Try.lays2n21_ren := {
  mixed := by kernel_rfl
  f21 := Try.func57.trans (congrArg some (by kernel_rfl))
  f27 := Try.func66.trans (congrArg some (by kernel_rfl))
  f28 := Try.func67.trans (congrArg some (by kernel_rfl))
  f35 := Try.func68.trans (congrArg some (by kernel_rfl))
  f39 := Try.func69.trans (congrArg some (by kernel_rfl))
  t0 := Try.underlying0
  a0 := Try.isAgg0
  z0 := Try.sizeOf0
  v0 := Try.zeroValue0
  t3 := Try.underlying3
  a3 := Try.isAgg3
  z3 := Try.sizeOf3
  v3 := Try.zeroValue3
  t4 := Try.underlying4
  a4 := Try.isAgg4
  z4 := Try.sizeOf4
  v4 := Try.zeroValue4
  t22 := Try.underlying25
  a22 := Try.isAgg25
  z22 := Try.sizeOf25
  v22 := Try.zeroValue25
  i3 := by kernel_rfl }
end Go.Proofs
namespace Go.Proofs.Ytnepjahhconodaa
open Go.RowKit

theorem step_copy_run {P : Program} {w : World} {ops : Array Oper} {o : Oper} {a : Act} {K : Act → World → Prop} {Q : Exit → Act → World → Prop} {E : Prop} (hgd : o.guard = none) (d s : Operand) (t t' : TypeId)
    (ho : o.op = .call { callee := .builtin .copy, args := #[d, s], argTypes := #[t, t'] }) (vd vs : Value) (hd : a.eval d = vd) (hs : a.eval s = vs)
    (v' : Value) (w' : World) (hr : (Builtin.copy_ #[t, t'] o.type #[vd, vs]).run P w = .ok v' w') (h : K (a.put o.dst v') w') :
    if Region.wanted o (yielded ops a.tmps) = true then Oper.wp P o a w K Q else E := by
  have hw : Region.wanted o (yielded ops a.tmps) = true := by simp [Region.wanted, hgd]
  rw [if_pos hw]
  unfold Oper.wp execOp
  simp only [ho, resolve, invoke, builtin, Sem.run_bind, Sem.run_pure, Result.andThen_ok, List.map_toArray, List.map_cons, List.map_nil, hd, hs, hr]
  exact h
theorem wpList_copy_run8 {P : Program} {w : World} {ops : Array Oper} {rest : List Oper} {o : Oper} {a : Act} {Q : Exit → Act → World → Prop} (hgd : o.guard = none) (d s : Operand) (t t' : TypeId)
    (ho : o.op = .call { callee := .builtin .copy, args := #[d, s], argTypes := #[t, t'] }) (vd vs : Value) (hd : a.eval d = vd) (hs : a.eval s = vs)
    (v' : Value) (w' : World) (hr : (Builtin.copy_ #[t, t'] o.type #[vd, vs]).run P w = .ok v' w') (h : wpList P ops Q rest (a.put o.dst v') w') : wpList P ops Q (o :: rest) a w := by
  refine wpList_plain hgd fun _ hK => ?_
  unfold Oper.wp execOp
  simp only [ho, resolve, invoke, builtin, Sem.run_bind, Sem.run_pure, Result.andThen_ok, List.map_toArray, List.map_cons, List.map_nil, hd, hs, hr]
  exact hK _ _ h
end Go.Proofs.Ytnepjahhconodaa
namespace Go.Proofs.Ytnepjahhconodaa
open Go.RowKit

/-- The first k of n are -1. -/
def mixN (n k : Nat) : List Int := List.replicate k (-1) ++ List.replicate (n - k) 0
theorem mixN_len (n k : Nat) (h : k ≤ n) : (mixN n k).length = n := by simp [mixN]; omega
theorem mixN_zero (n : Nat) : mixN n 0 = List.replicate n 0 := by simp [mixN]
theorem mixN_all (n : Nat) : mixN n n = List.replicate n (-1) := by simp [mixN]
theorem mixN_get {n k j : Nat} (h : j < k) (hk : k ≤ n) : (ints (mixN n k))[j]? = some (.int .i64 (-1)) := by
  rw [ints_get _ j (by rw [mixN_len n k hk]; omega)]
  simp [mixN, List.getElem?_append, h]
theorem mixN_copy {n k j : Nat} (_hj : k + j ≤ n) : (ints (mixN n k)).take k ++ ints (List.replicate j (-1)) ++ (ints (mixN n k)).drop (k + j) = ints (mixN n (k + j)) := by
  have e1 : (ints (mixN n k)).take k = ints (List.replicate k (-1)) := by simp [mixN, ints]
  have e2 : (ints (mixN n k)).drop (k + j) = ints (List.replicate (n - (k + j)) 0) := by
    unfold ints mixN
    rw [← List.map_drop, List.drop_append, List.drop_of_length_le (by simp)]
    simp; omega
  rw [e1, e2]
  unfold mixN ints
  rw [← List.map_append, ← List.map_append, List.replicate_append_replicate]
/-- What is copied from the front of a list to behind it, or from another list. -/
theorem cp_own {w : World} {base X n k j : Nat} {a : Addr} {sL sC : Nat} (hj : k + j ≤ n) (hmin : j = Nat.min sL (n - k)) (hX : w.ownsRow base 3 1 (.slice (some ⟨X, 0, none⟩) n n) n (ints (mixN n k))) (hs : ∀ i, i < j → w.cell? (a.add i) = some (.int .i64 (-1))) :
    ∃ w', (∀ ty, (Builtin.copy_ #[25, 25] ty #[.slice (some ⟨X, k, none⟩) (n - k) (n - k), .slice (some a) sL sC]).run Try.prog w = .ok (.int .i64 (j : Int)) w') ∧ w'.ownsRow base 3 1 (.slice (some ⟨X, 0, none⟩) n n) n (ints (mixN n (k + j))) ∧ w.grownBy w' (some X) := by
  rcases hX.2 with ⟨h, _⟩ | ⟨g, cap, cur, hv, hb, hg, hnc, hcm, hcs, htake⟩
  · cases h
  cases hv
  have hsz : (Try.prog.info? 3).map (·.size) = some 1 := by kernel_rfl
  have hl : (ints (List.replicate j (-1))).length = j := by simp [ints]
  have hrun := fun ty => run_copy_row (P := Try.prog) w 25 25 ty 3 X k (n - k) (n - k) a sL sC cur 3 (ints (List.replicate j (-1))) Try.underlying25 hsz hg (by rw [hl]; exact hmin) (fun i v hi => by
    have hij : i < j := by have := (List.getElem?_eq_some_iff.1 hi).1; omega
    have : v = .int .i64 (-1) := by simpa [ints, hij] using hi.symm
    rw [this]; exact hs i hij) (by rw [hl]; omega) (c_ints _)
  have hcur : cur.toList = ints (mixN n k) := by
    rw [← htake, List.take_of_length_le (by simp; omega)]
  rw [hl, hcur, mixN_copy hj] at hrun
  refine ⟨w.setRow X (ints (mixN n (k + j))).toArray, hrun, ⟨by simp [ints, mixN_len n (k + j) hj], .inr ⟨X, n, _, rfl, hb, setRow_heap w X _ _ _ _ hg, hnc, hcm, ?_, ?_⟩⟩, ⟨rfl, rfl, rfl, by simp [World.setRow], fun k _ hne => setRow_other w X k _ (by simpa using hne)⟩⟩
  · simp [ints, mixN_len n (k + j) hj]
  · rw [List.take_of_length_le (by simp [ints, mixN_len n (k + j) hj])]
theorem mul_c (n : Nat) (hn : n ≤ 10) (w : World) : Calls Try.prog 56 #[.int .u64 1, .int .u64 (n : Int)] w fun e w' => e = .returned (.tuple #[.int .u64 0, .int .u64 (n : Int)]) ∧ w' = w := by
  have := Try.bits_Mul 1 n (by omega) (by omega) w
  rw [Nat.one_mul, Nat.div_eq_of_lt (by omega), Nat.mod_eq_of_lt (by omega)] at this
  exact this
set_option maxRecDepth 20000 in
set_option maxHeartbeats 400000 in
theorem rp_any {B n : Nat} {w : World} (hn : n ≤ 10) (hc : w.cell? ⟨B, 0, none⟩ = some (.int .i64 (-1))) (hB : B < w.heap.size) :
    Calls Try.prog 34 #[.slice (some ⟨B, 0, none⟩) 1 1, .int .i64 (n : Int)] w fun e w' => e = .returned (.slice (some ⟨w.heap.size, 0, none⟩) n n) ∧ Below w.heap.size w w' ∧ w'.ownsRow w.heap.size 3 1 (.slice (some ⟨w.heap.size, 0, none⟩) n n) n (ints (List.replicate n (-1))) := by
  have h1 : IntKind.u64.wrap (n : Int) = (n : Int) := by rw [IntKind.wrap_u64]; omega
  have h2 : IntKind.i64.wrap (n : Int) = (n : Int) := by rw [IntKind.wrap_i64]; omega
  have h3 : ¬ (9223372036854775807 : Int) < (n : Int) := by omega
  have h4 : ¬ (n : Int) < 0 := by omega
  have hmk := makeI_run n (by omega)
  have hM := made_own w n (by omega)
  rw [← mixN_zero] at hM
  have hcn : (w.alloc (.cells (madeCells #[.int .i64 0] n) 3)).cell? ⟨B, 0, none⟩ = some (.int .i64 (-1)) := ((below_new w _).cell (p := ⟨B, 0, none⟩) hB).trans hc
  obtain ⟨j0, hj0, hj1⟩ : ∃ j0, j0 = Nat.min 1 (n - 0) ∧ 0 + j0 ≤ n := ⟨_, rfl, by simp only [Nat.min_def]; split <;> omega⟩
  have hj2 : n = 0 ∨ 1 ≤ j0 := by simp only [Nat.min_def] at hj0; split at hj0 <;> omega
  obtain ⟨w1, hr1, own1, hg1⟩ := cp_own (a := ⟨B, 0, none⟩) (sL := 1) (sC := 1) hj1 hj0 hM (fun i hi => by
    have : i = 0 := by simp only [Nat.min_def] at hj0; split at hj0 <;> omega
    subst this
    rw [add_plain']; exact hcn)
  simp only [Nat.zero_add, Nat.sub_zero] at hr1 own1
  have HB1 := hide ((below_new w (.cells (madeCells #[.int .i64 0] n) 3)).trans (grown_below' hg1 (Nat.le_refl _) (by simp)))
  have HO1 := hide own1
  have HJ := hide hj2
  clear own1 hg1 hM hc hcn hj0 hj2
  go_enter Try.func34, Try.ntmps34
  go_wp2_with fail
  refine (mul_c n hn _).mono ?_
  rintro e w0 ⟨rfl, hw0⟩
  obtain rfl : w = w0 := hw0.symm
  go_wp2_with (first | (at_builtin; refine wpList_copy_run8 rfl _ _ _ _ rfl _ _ rfl rfl _ _ (hr1 _) ?_))
  clear hr1 hmk h1 h2 h4
  go_loopw [8] (fun s8 wr => ∃ (k : Nat), s8 = .int .i64 k ∧ k ≤ n ∧ Hid (n = 0 ∨ 1 ≤ k) ∧ Hid (wr.ownsRow w.heap.size 3 1 (.slice (some ⟨w.heap.size, 0, none⟩) n n) n (ints (mixN n k))) ∧ Hid (Below w.heap.size w wr)) (fun s _ => n - (intOf s).toNat)
  case atStart => exact ⟨j0, rfl, by omega, HJ, HO1, HB1⟩
  case round =>
    clear HO1 HB1 HJ
    obtain ⟨k, rfl, hk, HJ, HO, HB⟩ := hrel
    by_cases hlt : k < n
    · have k1 : 1 ≤ k := by have := HJ.out; omega
      have i0 : (0 : Int) ≤ (k : Int) := by omega
      have i1 : (k : Int) < (n : Int) := by omega
      have i2 : (k : Int) ≤ (n : Int) := by omega
      have i3 : ¬ k = n := by omega
      have i5 : ¬ n = k := by omega
      have i4 : ¬ (k : Int) = (n : Int) := by omega
      obtain ⟨j, hj, hj1⟩ : ∃ j, j = Nat.min k (n - k) ∧ k + j ≤ n := ⟨_, rfl, by simp only [Nat.min_def]; split <;> omega⟩
      have hj2 : 1 ≤ j := by simp only [Nat.min_def] at hj; split at hj <;> omega
      have hjk : j ≤ k := by simp only [Nat.min_def] at hj; split at hj <;> omega
      obtain ⟨w2, hr2, own2, hg2⟩ := cp_own (w := wr.drew) (a := ⟨w.heap.size, 0, none⟩) (sL := k) (sC := n) hj1 hj HO.out.drew (fun i hi => by
        rw [add_plain', Nat.zero_add, HO.out.drew.cellAt i (by omega)]
        exact mixN_get (by omega) hk)
      have HO2 := hide own2
      have HB2 := hide (HB.out.trans (grown_below' (w := wr) ⟨hg2.os, hg2.tape, hg2.output, hg2.size, hg2.block⟩ (Nat.le_refl _) HB.out.size))
      have w1 : IntKind.i64.wrap ((k : Int) + (j : Int)) = (k : Int) + (j : Int) := by rw [IntKind.wrap_i64]; omega
      have HR2 : Hid (∀ ty, (Builtin.copy_ #[25, 25] ty #[.slice (if n = k then some ⟨w.heap.size, 0, none⟩ else some ⟨w.heap.size, k, none⟩) (n - k) (n - k), .slice (some ⟨w.heap.size, 0, none⟩) k n]).run Try.prog wr.drew = .ok (.int .i64 (j : Int)) w2) := hide fun ty => by rw [if_neg i5]; exact hr2 ty
      clear own2 hg2 hj hr2 i5 i3
      go_wp2_with fail
      go_region_law ((refine step_copy_run (w := wr.drew) (by rfl) (.tmp 41) (.tmp 44) 25 25 (by rfl) (.slice (if n = k then some ⟨w.heap.size, 0, none⟩ else some ⟨w.heap.size, k, none⟩) (n - k) (n - k)) (.slice (some ⟨w.heap.size, 0, none⟩) k n) (by simp [go_sem]) (by simp [go_sem]) (.int .i64 (j : Int)) w2 (HR2.out _) ?_))
      go_wp2_with fail
      go_roundw
      case rel => exact ⟨k + j, by go_num, hj1, (by show n = 0 ∨ 1 ≤ k + j; omega), HO2⟩
      case measure => simp only [intOf]; omega
    · have hke : k = n := by omega
      subst hke
      have HF : Hid (wr.ownsRow w.heap.size 3 1 (.slice (some ⟨w.heap.size, 0, none⟩) k k) k (ints (List.replicate k (-1)))) := hide (by rw [← mixN_all]; exact HO.out)
      go_wp2_with fail
      go_ret
      exact ⟨rfl, HB.out, HF.out⟩
end Go.Proofs.Ytnepjahhconodaa
namespace Go.Proofs.Ytnepjahhconodaa
namespace Nt
/-- The program's own words: -1 for those not come to, 0 for hall 0. -/
def encF (x : Int) : Int := if x = -2 then -1 else if x = -1 then 0 else x
def enc (M : List Int) : List Int := M.map encF
theorem enc_len (M : List Int) : (enc M).length = M.length := by simp [enc]
theorem enc_at {M : List Int} {k : Nat} (h : k < M.length) : (enc M).getD k 0 = encF (M.getD k 0) := by simp [enc, h]
theorem enc_set (M : List Int) (k : Nat) {a : Int} (ha : 0 ≤ a) : enc (M.set k a) = (enc M).set k a := by
  have : encF a = a := by unfold encF; rw [if_neg (by omega), if_neg (by omega)]
  unfold enc
  rw [List.map_set, this]
theorem encF_no (x : Int) : encF x = -1 ↔ x = -2 := by
  unfold encF
  split
  · simp [*]
  · split <;> omega
theorem encF_nn {x : Int} (h : 0 ≤ x) : encF x = x := by unfold encF; rw [if_neg (by omega), if_neg (by omega)]
theorem enc_start (n : Nat) : enc (start n) = (List.replicate n (-1)).set 0 0 := by
  unfold enc start
  rw [List.map_set, List.map_replicate]
  rfl
end Nt
open Go.Conc Go.RowKit
/-- The search: from g the halls come from, in c those that wait. -/
structure CF (w0 : World) (n g c s r : Nat) (M Q : List Int) (w : World) : Prop where
  own : w.ownsRow w0.heap.size 3 1 (.slice (some ⟨g, 0, none⟩) n n) n (ints (Nt.enc M))
  ch : w.heap[c]? = some (.chan n (qv Q) false s r false)
  ne : g ≠ c
  lo : w0.heap.size ≤ c
  bel : Below w0.heap.size w0 w
  len : M.length = n
theorem CF.at {w0 w : World} {n g c s r k : Nat} {M Q : List Int} (h : CF w0 n g c s r M Q w) (hk : k < n) : w.cell? ⟨g, k, none⟩ = some (.int .i64 (Nt.encF (M.getD k 0))) ∧ w.frozen? ⟨g, k, none⟩ = false := by
  refine ⟨?_, h.own.frozenAt k⟩
  rw [h.own.cellAt k (by omega), ints_get _ k (by rw [Nt.enc_len, h.len]; exact hk), Nt.enc_at (by rw [h.len]; exact hk)]
theorem CF.store {w0 w : World} {n g c s r k : Nat} {M Q : List Int} {a : Int} (h : CF w0 n g c s r M Q w) (ha : 0 ≤ a) : CF w0 n g c s r (M.set k a) Q (w.setCell ⟨g, k, none⟩ (.int .i64 a)) := by
  obtain ⟨st1, st2⟩ := h.own.stored k (.int .i64 a)
  rw [ints_set, ← Nt.enc_set M k ha] at st1
  exact ⟨st1, (Below.heap_setCell w ⟨g, k, none⟩ _ c (Ne.symm h.ne)).trans h.ch, h.ne, h.lo, h.bel.setCell (p := ⟨g, k, none⟩) (h.own.lt g rfl).1 _, by rw [List.length_set]; exact h.len⟩
theorem CF.turn {w0 w : World} {n g c s r s' r' : Nat} {M Q Q' : List Int} (h : CF w0 n g c s r M Q w) : CF w0 n g c s' r' M Q' (w.setChan c n (qv Q') false s' r' false) :=
  ⟨own_keep2 h.own fun b hv _ => by
      have : g = b := by simpa [Value.ownBlock] using hv
      subst this
      simp only [World.setChan]; rw [Array.getElem?_setIfInBounds_ne (Ne.symm h.ne)], heap_setChan w c n _ false _ _ false (Array.getElem?_eq_some_iff.1 h.ch).1, h.ne, h.lo, below_setChan h.bel h.lo _ _ _ _ _ _, h.len⟩
def rcv (c : Nat) (w : World) : Nat := match w.heap[c]? with
  | some (.chan _ _ _ _ r _) => r
  | _ => 0
theorem CF.rcv {w0 w : World} {n g c s r : Nat} {M Q : List Int} (h : CF w0 n g c s r M Q w) : rcv c w = r := by unfold Proofs.Ytnepjahhconodaa.rcv; rw [h.ch]
def msr (n c : Nat) (v : Value) (w : World) : Nat := match v with
  | .bool true => n + 2 - rcv c w
  | _ => 0
set_option maxRecDepth 100000 in
set_option maxHeartbeats 400000 in
theorem next_eq {w0 w : World} {n g c s r : Nat} {M Q : List Int} (h : Hid (CF w0 n g c s r M Q w)) :
    Calls Try.prog 37 #[.chan (some c)] w fun e w' => (∃ a Q', Q = a :: Q' ∧ e = .returned (.tuple #[.int .i64 a, .bool true]) ∧ CF w0 n g c s (r + 1) M Q' w') ∨ (Q = [] ∧ e = .returned (.tuple #[.int .i64 (-1), .bool false]) ∧ CF w0 n g c s r M [] w') := by
  cases Q with
  | nil => exact (next13_no h.out.ch).mono fun _ _ ⟨h1, h2⟩ => Or.inr ⟨rfl, h1, h2 ▸ h.out⟩
  | cons a Q => exact (next13_yes h.out.ch).mono fun _ _ ⟨h1, h2⟩ => Or.inl ⟨a, Q, rfl, h1, h2 ▸ h.out.turn⟩
theorem add_eq {w0 w : World} {n g c s r : Nat} {M Q : List Int} {x : Int} (h : Hid (CF w0 n g c s r M Q w)) (hq : Q.length < n) :
    Calls Try.prog 36 #[.chan (some c), .int .i64 x] w fun e w' => e = .returned (.tuple #[]) ∧ CF w0 n g c (s + 1) r M (Q ++ [x]) w' :=
  (add13 h.out.ch hq).mono fun _ _ ⟨h1, h2⟩ => ⟨h1, h2 ▸ h.out.turn⟩
/-- What holds where the next hall is asked for. -/
def CFo (w0 : World) (R : List (List Int)) (n g c : Nat) (s5 s6 : Value) (w : World) : Prop :=
  ∃ s r M Q, CF w0 n g c s r M Q w ∧ ((∃ (a : Nat) (f : Nat), s5 = .int .i64 (a : Int) ∧ s6 = .bool true ∧ a < n ∧ Nt.bfs R n f M ((a : Int) :: Q) = Nt.come R n ∧ Nt.open2 M ((a : Int) :: Q) ≤ f ∧ (1 ≤ r ∧ r + Nt.open2 M ((a : Int) :: Q) = n + 1) ∧ ∀ x ∈ Q, 0 ≤ x ∧ x < n) ∨ (s6 = .bool false ∧ M = Nt.come R n))
theorem scan_mem {R : List (List Int)} {a : Int} {M Q : List Int} {n : Nat} (h : ∀ x ∈ Q, 0 ≤ x ∧ x < (n : Int)) : ∀ k, k ≤ n → ∀ x ∈ (Nt.scanTo R a M Q k).2, 0 ≤ x ∧ x < (n : Int)
  | 0, _ => h
  | k + 1, hk => by
    have ih := scan_mem (R := R) (a := a) (M := M) h k (by omega)
    rw [Nt.scanTo]
    split
    · intro x hx
      rcases List.mem_append.1 hx with hx | hx
      · exact ih x hx
      · simp at hx; omega
    · exact ih
theorem cf_next {w0 w : World} {R : List (List Int)} {n g c r f a : Nat} {M Q : List Int} (hM : M.length = n) (hb : Nt.bfs R n f M ((a : Int) :: Q) = Nt.come R n) (ho : Nt.open2 M ((a : Int) :: Q) ≤ f) (hr : 1 ≤ r ∧ r + Nt.open2 M ((a : Int) :: Q) = n + 1) (hq : ∀ x ∈ Q, 0 ≤ x ∧ x < (n : Int))
    {s' : Nat} {e : Ending} (h : (∃ x Q', (Nt.scanTo R a M Q n).2 = x :: Q' ∧ e = .returned (.tuple #[.int .i64 x, .bool true]) ∧ CF w0 n g c s' (r + 1) (Nt.scanTo R a M Q n).1 Q' w) ∨ ((Nt.scanTo R a M Q n).2 = [] ∧ e = .returned (.tuple #[.int .i64 (-1), .bool false]) ∧ CF w0 n g c s' r (Nt.scanTo R a M Q n).1 [] w)) :
    ∃ x t, e = .returned (.tuple #[.int .i64 x, .bool t]) ∧ CFo w0 R n g c (.int .i64 x) (.bool t) w ∧ msr n c (.bool t) w < n + 2 - r := by
  have hop := Nt.scan_open (R := R) (a := (a : Int)) (M := M) (Q := Q) (by omega) n (by omega)
  have h1 : Nt.open2 M ((a : Int) :: Q) = Nt.open2 M Q + 1 := by unfold Nt.open2; simp only [List.length_cons]; omega
  obtain ⟨f, rfl⟩ : ∃ g, f = g + 1 := ⟨f - 1, by omega⟩
  rw [Nt.bfs] at hb
  have hmem := scan_mem (R := R) (a := (a : Int)) (M := M) hq n (Nat.le_refl _)
  rcases h with ⟨x, Q', e1, e2, hc⟩ | ⟨e1, e2, hc⟩
  · rw [e1] at hb hop hmem
    have hx := hmem x List.mem_cons_self
    refine ⟨x, true, e2, ⟨s', r + 1, _, Q', hc, Or.inl ⟨x.toNat, f, ?_, rfl, by omega, ?_, ?_, ?_, fun y hy => hmem y (List.mem_cons_of_mem _ hy)⟩⟩, ?_⟩
    · rw [Int.toNat_of_nonneg hx.1]
    · rw [Int.toNat_of_nonneg hx.1]; exact hb
    · rw [Int.toNat_of_nonneg hx.1]; omega
    · rw [Int.toNat_of_nonneg hx.1]; exact ⟨by omega, by omega⟩
    · show n + 2 - rcv c w < n + 2 - r
      rw [hc.rcv]; omega
  · rw [e1] at hb
    refine ⟨-1, false, e2, ⟨s', r, _, [], hc, Or.inr ⟨rfl, ?_⟩⟩, ?_⟩
    · rw [← hb]; cases f <;> rfl
    · show 0 < n + 2 - r
      omega
set_option maxRecDepth 100000 in
set_option maxHeartbeats 8000000 in
theorem cam_any {a : Option Addr} {n c : Nat} {R : List (List Int)} {w : World} (HN : Hid (R.length = n)) (h2 : 2 ≤ n) (h8 : n ≤ 8) (HRW : Hid (∀ i, i < n → (R.getD i []).length = n)) (H : Hid (CRow w a R)) :
    Calls Try.prog 17 #[.slice a n c] w fun e w' => ∃ g, e = .returned (.slice (some ⟨g, 0, none⟩) n n) ∧ w'.ownsRow w.heap.size 3 1 (.slice (some ⟨g, 0, none⟩) n n) n (ints (Nt.enc (Nt.come R n))) ∧ Below w.heap.size w w' := by
  have hB0 := below_new w (.cells #[.int .i64 (-1)] 3)
  have c0 : (w.alloc (.cells #[.int .i64 (-1)] 3)).cell? ⟨w.heap.size, 0, none⟩ = some (.int .i64 (-1)) := by simp
  have hz : w.heap.size < (w.alloc (.cells #[.int .i64 (-1)] 3)).heap.size := by simp
  have HREP := hide (rp_any (B := w.heap.size) (n := n) (w := w.alloc (.cells #[.int .i64 (-1)] 3)) (by omega) c0 hz)
  have n0 : (0 : Int) < (n : Int) := by omega
  clear c0
  go_enter Try.func17, Try.ntmps17
  go_wp2_with fail
  refine HREP.out.mono ?_
  rintro e w1 ⟨rfl, hb1, own1⟩
  obtain ⟨g, hg⟩ : ∃ g, g = (w.alloc (.cells #[.int .i64 (-1)] 3)).heap.size := ⟨_, rfl⟩
  rw [← hg] at own1 ⊢
  have hgz : g < w1.heap.size := (own1.lt g rfl).2
  have hgl : w.heap.size ≤ g := by rw [hg]; omega
  have f0 := own1.frozenAt 0
  have c0 : w1.cell? ⟨g, 0, none⟩ = some (.int .i64 (-1)) := by rw [own1.cellAt 0 (by omega), ints_get _ 0 (by simp; omega)]; simp [show 0 < n by omega]
  obtain ⟨st1, st2⟩ := own1.stored 0 (.int .i64 0)
  rw [ints_set, ← Nt.enc_start] at st1
  have HB2 : Hid (Below w.heap.size w (w1.setCell ⟨g, 0, none⟩ (.int .i64 0))) := hide ((hB0.trans (hb1.mono (by omega))).setCell (p := ⟨g, 0, none⟩) hgl _)
  have HO2 := hide (own_low2 st1 (show w.heap.size ≤ g from hgl))
  clear own1 st1 st2 HREP hb1 hB0 hg
  go_wp2_with fail
  refine (nhl_any (by omega)).mono ?_
  rintro e w2 ⟨rfl, hw2⟩
  have hs2 : (w1.setCell ⟨g, 0, none⟩ (.int .i64 0)).heap.size = w1.heap.size := World.size_setCell _ _ _
  have HCF : Hid (CF w n g w1.heap.size 0 0 (Nt.start n) [] w2) := hide (by
    rw [hw2]
    refine ⟨own_below2 HO2.out (below_new _ _), ?_, by omega, by omega, HB2.out.trans ((below_new _ _).mono (by rw [hs2]; omega)), Nt.start_len n⟩
    rw [← hs2, heap_alloc_new]; rfl)
  rw [hs2]
  obtain ⟨C, hC⟩ : ∃ C, C = w1.heap.size := ⟨_, rfl⟩
  rw [← hC] at HCF ⊢
  clear hw2 HB2 HO2 hs2 hC hgz f0 c0 hz
  go_wp2_with fail
  refine (add_eq (x := 0) HCF (by simp; omega)).mono ?_
  rintro e w3 ⟨rfl, hcf3⟩
  have HCF3 := hide hcf3
  clear HCF hcf3
  go_wp2_with fail
  refine (next_eq HCF3).mono ?_
  rintro e w4 h4
  obtain ⟨hcf4, rfl⟩ : CF w n g C 1 1 (Nt.start n) [] w4 ∧ e = .returned (.tuple #[.int .i64 0, .bool true]) := by
    rcases h4 with ⟨x, Q', e1, e2, e3⟩ | ⟨e1, _⟩
    · simp at e1
      obtain ⟨rfl, rfl⟩ := e1
      exact ⟨e3, e2⟩
    · simp at e1
  have HI : Hid (CFo w R n g C (.int .i64 0) (.bool true) w4) := hide ⟨1, 1, _, [], hcf4, Or.inl ⟨0, n, rfl, rfl, by omega, rfl, by rw [show ((0 : Nat) : Int) = 0 from rfl, Nt.start_open (by omega)]; exact Nat.le_refl _, ⟨Nat.le_refl _, by rw [show ((0 : Nat) : Int) = 0 from rfl, Nt.start_open (by omega)]; omega⟩, by simp⟩⟩
  clear hcf4 HCF3 h4
  go_wp2_with fail
  go_loopw [5, 6, 7, 8] (fun s5 s6 _ _ wr => Hid (CFo w R n g C s5 s6 wr)) (fun _ s6 _ _ wr => msr n C s6 wr)
  case atStart => exact HI
  case round =>
    clear HI
    obtain ⟨s, r, M, Q, hcf, hor⟩ := hrel.out
    rcases hor with ⟨p, f, rfl, rfl, hp, hbf, hop, hrr, hmem⟩ | ⟨rfl, hM⟩
    · have HBF := hide hbf
      have HOP := hide hop
      have HMEM := hide hmem
      have HRR := hide hrr
      have HML := hide hcf.len
      have hms : msr n C (.bool true) wr = n + 2 - r := by show n + 2 - rcv C wr = _; rw [hcf.rcv]
      have hT : Nt.open2 M Q + 1 ≤ n := by
        have : Nt.open2 M ((p : Int) :: Q) = Nt.open2 M Q + 1 := by unfold Nt.open2; simp only [List.length_cons]; omega
        omega
      have HCF := hide hcf
      obtain ⟨b, off, ai, ci, rfl, hb, q1, Q1⟩ := H.out.at (i := p) (by rw [HN.out]; exact hp)
      rw [HRW.out p hp] at q1
      have r1 := (hcf.bel.cell (p := ⟨b, off + p, none⟩) hb).trans q1
      have HQ1 := hide Q1
      have p0 : (0 : Int) ≤ (p : Int) := by omega
      have p1 : (p : Int) < (n : Int) := by omega
      clear hcf hbf hop hmem hrr Q1 q1 hrel
      go_wp2_with fail
      go_loopw [7, 8, 36] (fun _ _ sk wq => ∃ (k s' : Nat), sk = .int .i64 k ∧ k ≤ n ∧ Hid (CF w n g C s' r (Nt.scanTo R p M Q k).1 (Nt.scanTo R p M Q k).2 wq)) (fun _ _ sk _ => n - (intOf sk).toNat)
      case atStart => exact ⟨0, s, rfl, Nat.zero_le _, HCF⟩
      case round =>
        clear HCF r1
        obtain ⟨k, s', rfl, hk, HCF⟩ := hrel
        by_cases hkn : k < n
        · obtain ⟨b', o', rfl, r2⟩ := (HQ1.out.below HCF.out.bel).at (i := k) (by rw [HRW.out p hp]; exact hkn)
          have r3 : wr.cell? ⟨b', o' + k, none⟩ = some (.int .i64 (Nt.at2 R p k)) := r2
          obtain ⟨c3, f3⟩ := HCF.out.at hkn
          have k0 : (0 : Int) ≤ (k : Int) := by omega
          have k1 : (k : Int) < (n : Int) := by omega
          have HST : Hid (Nt.scanTo R p M Q (k + 1) = if (Nt.scanTo R p M Q k).1.getD k 0 = -2 ∧ 0 < Nt.at2 R p k then ((Nt.scanTo R p M Q k).1.set k p, (Nt.scanTo R p M Q k).2 ++ [(k : Int)]) else Nt.scanTo R p M Q k) := hide rfl
          have HOPN := hide (Nt.open_pos (M := (Nt.scanTo R p M Q k).1) (Q := (Nt.scanTo R p M Q k).2) (k := k) (by rw [HCF.out.len]; exact hkn))
          have HSO := hide (Nt.scan_open (R := R) (a := (p : Int)) (M := M) (Q := Q) (by omega) k (by rw [HML.out]; omega))
          have HEN := hide (Nt.encF_no ((Nt.scanTo R p M Q k).1.getD k 0))
          generalize Nt.at2 R p k = x at *
          by_cases hx : 0 < x
          · have hx' : ¬ x ≤ 0 := by omega
            by_cases hy : (Nt.scanTo R p M Q k).1.getD k 0 = -2
            · have hq : (Nt.scanTo R p M Q k).2.length < n := by
                have h1 := HOPN.out hy
                have h2 := HSO.out
                omega
              rw [HEN.out.2 hy] at c3
              have HS : Hid (Nt.scanTo R p M Q (k + 1) = ((Nt.scanTo R p M Q k).1.set k p, (Nt.scanTo R p M Q k).2 ++ [(k : Int)])) := hide (by rw [HST.out, if_pos ⟨hy, hx⟩])
              have HC2 := hide (HCF.out.store (k := k) (a := (p : Int)) (by omega))
              generalize hz : wr.setCell ⟨g, k, none⟩ (.int .i64 (p : Int)) = w5 at HC2
              have HZ := hide hz
              clear hy HST HOPN HSO HEN r2 HCF hz
              go_wp2_with fail
              rw [HZ.out]
              refine (add_eq HC2 hq).mono ?_
              rintro e w6 ⟨rfl, hc6⟩
              have HC6 : Hid (CF w n g C (s' + 1) r (Nt.scanTo R p M Q (k + 1)).1 (Nt.scanTo R p M Q (k + 1)).2 w6) := hide (by rw [HS.out]; exact hc6)
              clear hc6 HC2 HS
              go_wp2_with fail
              go_roundw
              case rel => exact ⟨k + 1, s' + 1, by go_num, by omega, HC6⟩
              case measure => simp only [intOf]; omega
            · have HC6 : Hid (CF w n g C s' r (Nt.scanTo R p M Q (k + 1)).1 (Nt.scanTo R p M Q (k + 1)).2 wr) := hide (by rw [HST.out, if_neg (fun h => hy h.1)]; exact HCF.out)
              have hb1 : (Nt.encF ((Nt.scanTo R p M Q k).1.getD k 0) == (-1 : Int)) = false := by
                rw [beq_eq_false_iff_ne]; exact fun e => hy (HEN.out.1 e)
              generalize Nt.encF ((Nt.scanTo R p M Q k).1.getD k 0) = z at *
              clear hy HST HOPN HSO HEN r2 HCF
              go_wp2_with fail
              go_roundw
              case rel => exact ⟨k + 1, s', by go_num, by omega, HC6⟩
              case measure => simp only [intOf]; omega
          · have hx' : x ≤ 0 := by omega
            have HC6 : Hid (CF w n g C s' r (Nt.scanTo R p M Q (k + 1)).1 (Nt.scanTo R p M Q (k + 1)).2 wr) := hide (by rw [HST.out, if_neg (fun h => hx h.2)]; exact HCF.out)
            clear HST HOPN HSO HEN r2 HCF
            go_wp2_with fail
            go_roundw
            case rel => exact ⟨k + 1, s', by go_num, by omega, HC6⟩
            case measure => simp only [intOf]; omega
        · have hke : k = n := by omega
          subst hke
          go_wp2_with fail
          refine (next_eq HCF).mono ?_
          rintro e w7 h7
          obtain ⟨x, t, rfl, hcfo, hm7⟩ := cf_next HML.out HBF.out HOP.out HRR.out HMEM.out h7
          have HCFO := hide hcfo
          have HM7 := hide hm7
          have HMS := hide hms
          clear hcfo hm7 hms h7
          go_wp2_with fail
          go_roundw
          case rel => exact HCFO
          case measure => rw [HMS.out]; exact HM7.out
    · have HO : Hid (wr.ownsRow w.heap.size 3 1 (.slice (some ⟨g, 0, none⟩) n n) n (ints (Nt.enc (Nt.come R n)))) := hide (by rw [← hM]; exact hcf.own)
      have HB := hide hcf.bel
      clear hcf hM
      go_wp2_with fail
      go_ret
      exact ⟨g, rfl, HO.out, HB.out⟩
end Go.Proofs.Ytnepjahhconodaa
namespace Go.Proofs.Ytnepjahhconodaa
open Go.RowKit

theorem own_full {w : World} {base e g n c : Nat} {xs : List Value} (h : w.ownsRow base e 1 (.slice (some ⟨g, 0, none⟩) n c) n xs) : n ≤ c ∧ ∃ ys, ys.length = c ∧ ys.take n = xs ∧ w.ownsRow base e 1 (.slice (some ⟨g, 0, none⟩) c c) c ys := by
  rcases h.2 with ⟨h', _⟩ | ⟨g', cap', cur, h', hb, hg, hnc, hcm, hcs, htake⟩
  · simp at h'
  · simp only [Value.slice.injEq, Option.some.injEq, Addr.mk.injEq, and_true, true_and] at h'
    obtain ⟨rfl, rfl⟩ := h'
    rw [Nat.mul_one] at hcs htake
    exact ⟨hnc, cur.toList, by simpa using hcs, htake, by simpa using hcs, Or.inr ⟨g, c, cur, rfl, hb, hg, Nat.le_refl _, hcm, by rw [Nat.mul_one]; exact hcs, by rw [Nat.mul_one]; exact List.take_of_length_le (by simp [hcs])⟩⟩
theorem own_prefix {w : World} {base e g n c : Nat} {ys : List Value} (h : w.ownsRow base e 1 (.slice (some ⟨g, 0, none⟩) c c) c ys) (hn : n ≤ c) : w.ownsRow base e 1 (.slice (some ⟨g, 0, none⟩) n c) n (ys.take n) := by
  have hl := h.1
  rcases h.2 with ⟨h', _⟩ | ⟨g', cap', cur, h', hb, hg, hnc, hcm, hcs, htake⟩
  · simp at h'
  · simp only [Value.slice.injEq, Option.some.injEq, Addr.mk.injEq, and_true, true_and] at h'
    obtain ⟨rfl, rfl⟩ := h'
    rw [Nat.mul_one] at hcs htake hl
    refine ⟨by rw [List.length_take]; omega, Or.inr ⟨g, c, cur, rfl, hb, hg, hn, hcm, by rw [Nat.mul_one]; exact hcs, ?_⟩⟩
    rw [← htake, Nat.mul_one, List.take_take, Nat.min_eq_left hn]
def setL (xs : List Value) : Nat → List Value → List Value
  | _, [] => xs
  | o, v :: r => setL (xs.set o v) (o + 1) r
theorem setL_len : ∀ (vs xs : List Value) (o : Nat), (setL xs o vs).length = xs.length
  | [], _, _ => rfl
  | v :: r, xs, o => by rw [setL, setL_len r]; simp
theorem setL_eq : ∀ (vs xs : List Value) (o : Nat), o + vs.length ≤ xs.length → setL xs o vs = xs.take o ++ vs ++ xs.drop (o + vs.length)
  | [], xs, o, _ => by simp [setL]
  | v :: r, xs, o, h => by
    simp only [List.length_cons] at h
    rw [setL, setL_eq r _ _ (by simp; omega), List.take_succ_eq_append_getElem (by simp; omega)]
    simp only [List.length_cons, List.getElem_set_self, List.take_set_of_le (Nat.le_refl o)]
    rw [List.drop_set_of_lt (by omega), show o + 1 + r.length = o + (r.length + 1) by omega]
    simp
theorem own_cells {base e g N : Nat} : ∀ (vs xs : List Value) (o : Nat) (w : World), w.ownsRow base e 1 (.slice (some ⟨g, 0, none⟩) N N) N xs → (w.setCells g o vs).ownsRow base e 1 (.slice (some ⟨g, 0, none⟩) N N) N (setL xs o vs) ∧ Below base w (w.setCells g o vs)
  | [], _, _, w, h => ⟨h, Below.refl _ _⟩
  | v :: r, xs, o, w, h => by
    have h1 := (h.stored o v).1
    have h2 := own_cells r (xs.set o v) (o + 1) _ h1
    exact ⟨h2.1, ((Below.refl base w).setCell (p := ⟨g, o, none⟩) (h.lt g rfl).1 v).trans h2.2⟩
theorem own_drew {w : World} {base e s n : Nat} {v : Value} {xs : List Value} (h : w.ownsRow base e s v n xs) : w.drew.ownsRow base e s v n xs := own_keep2 h fun _ _ _ => rfl
end Go.Proofs.Ytnepjahhconodaa
namespace Go.Proofs.Ytnepjahhconodaa
open Go.Conc Go.RowKit

set_option maxRecDepth 100000 in
set_option maxHeartbeats 1000000 in
theorem ins13 {W : World} {base b n c : Nat} {P : List Int} {x : Int} (own : W.ownsRow base 3 1 (.slice (some ⟨b, 0, none⟩) n c) n (ints P)) (hn : P.length = n) (h1 : 1 ≤ n) (h9 : n ≤ 1000) (hb : base ≤ W.heap.size) :
    Calls Try.prog 57 #[.slice (some ⟨b, 0, none⟩) n c, .int .i64 0, .slice (some ⟨W.heap.size, 0, none⟩) 1 1] (W.alloc (.cells #[.int .i64 x] 3)) fun e w' =>
      ∃ b' c', e = .returned (.slice (some ⟨b', 0, none⟩) (n + 1) c') ∧ w'.ownsRow base 3 1 (.slice (some ⟨b', 0, none⟩) (n + 1) c') (n + 1) (ints (x :: P)) ∧ Below base W w' := by
  have own1 := own.alloc (.cells #[.int .i64 x] 3)
  obtain ⟨hbl, hbu⟩ := own.lt b rfl
  obtain ⟨hnc, ys, hyl, hyt, hfull⟩ := own_full own1
  have hcm : c ≤ maxLen := by
    rcases own.2 with ⟨h', _⟩ | ⟨g', cap', cur, h', _, _, _, h4, _⟩
    · simp at h'
    · cases h'; exact h4
  have hPl : (ints P).length = n := by simp [ints, hn]
  have hcs : ∀ j v, (ints P)[j]? = some v → (W.alloc (.cells #[.int .i64 x] 3)).cell? ⟨b, 0 + j, none⟩ = some v := fun j v h => by
    have hj : j < n := by have := (List.getElem?_eq_some_iff.1 h).1; omega
    rw [Nat.zero_add, own1.cellAt j (by omega)]; exact h
  have hvs : ∀ j v, ([Value.int .i64 x])[j]? = some v → (W.alloc (.cells #[.int .i64 x] 3)).cell? ⟨W.heap.size, 0 + j, none⟩ = some v := fun j v h => by
    have hj : j = 0 := by have := (List.getElem?_eq_some_iff.1 h).1; simpa using this
    subst hj
    simp at h
    subst h
    simp
  have h1c : ∀ v ∈ ints P, v.oneCell' = true := fun v hv => by
    obtain ⟨y, _, rfl⟩ := List.mem_map.1 hv; rfl
  have h1v : ∀ v ∈ [Value.int .i64 x], v.oneCell' = true := fun v hv => by simp at hv; subst hv; rfl
  have hB0 : Below base W (W.alloc (.cells #[.int .i64 x] 3)) := (below_new W _).mono hb
  unfold maxLen at hcm
  by_cases hroom : n + 1 ≤ c
  · refine Calls.mono (R := fun e w' => e = .returned (.slice (some ⟨b, 0, none⟩) (n + 1) c) ∧ w' = ((W.alloc (.cells #[.int .i64 x] 3)).drew.setCells b (0 + (0 + 1)) ((ints P).drop 0)).setCells b (0 + 0) [.int .i64 x]) ?_ ?_
    · exact Any2.slices_Insert_int_shift Try.lays2n21 b 0 n c 0 W.heap.size 0 1 1 (ints P) [.int .i64 x] _ (by omega) (by omega) hroom (by omega) (by omega) hPl rfl hcs
        (fun j hj => by rw [Nat.zero_add, hfull.cellAt j (by omega), List.getElem?_eq_getElem (by omega)]; rfl)
        (fun j _ => hfull.frozenAt _) hvs h1c h1v 3 3 1 c (by unfold World.shape?; rw [heap_alloc_new]; rfl) (by
          rcases hfull.2 with ⟨h', _⟩ | ⟨g', cap', cur, h', _, hg, _, _, hcs', _⟩
          · simp at h'
          · cases h'
            unfold World.shape?
            rw [hg]
            simp only [Nat.mul_one] at hcs'
            rw [← hcs']) (by omega) (by unfold World.frozen?; simp only [heap_alloc_new]; rfl) (by unfold World.frozen?; simp only [heap_alloc_new]; rfl)
    · rintro e w' ⟨rfl, rfl⟩
      have d1 := own_drew hfull
      obtain ⟨o1, b1⟩ := own_cells (ints P) ys 1 _ d1
      obtain ⟨o2, b2⟩ := own_cells [.int .i64 x] (setL ys 1 (ints P)) 0 _ o1
      refine ⟨b, c, rfl, ?_, (hB0.drew.trans b1).trans b2⟩
      have := own_prefix o2 hroom
      have e1 : (setL (setL ys 1 (ints P)) 0 [.int .i64 x]).take (n + 1) = ints (x :: P) := by
        obtain ⟨y, ys', rfl⟩ : ∃ y ys', ys = y :: ys' := by
          cases ys with
          | nil => simp at hyl; omega
          | cons y ys' => exact ⟨y, ys', rfl⟩
        rw [setL_eq [.int .i64 x] _ _ (by rw [setL_len]; simp), setL_eq (ints P) _ _ (by omega), hPl]
        simp [ints, hn]
      rw [e1] at this
      exact this
  · refine Calls.mono (R := fun e w' => e = .returned (.slice (some ⟨(W.alloc (.cells #[.int .i64 x] 3)).heap.size, 0, none⟩) (n + 1) (grownCap (W.alloc (.cells #[.int .i64 x] 3)) (n + 1) c 3)) ∧
        w' = ((((W.alloc (.cells #[.int .i64 x] 3)).alloc (.cells (((ints P).take 0).toArray ++ Builtin.zeroCells (Value.int .i64 0).cells (n + 1 - 0) ++ Builtin.zeroCells (Value.int .i64 0).cells (grownCap (W.alloc (.cells #[.int .i64 x] 3)) (n + 1) c 3 - (n + 1))) 3)).drew.setCells (W.alloc (.cells #[.int .i64 x] 3)).heap.size 0 [.int .i64 x]).drew).setCells (W.alloc (.cells #[.int .i64 x] 3)).heap.size (0 + 1) ((ints P).drop 0)) ?_ ?_
    · exact Any2.slices_Insert_int_grow Try.lays2n21 b 0 n c 0 W.heap.size 0 1 1 (ints P) [.int .i64 x] _ (by omega) (by omega) hnc (by omega) (by omega) hPl rfl hcs hvs h1c h1v
    · rintro e w' ⟨rfl, rfl⟩
      obtain ⟨cap, hcap⟩ : ∃ cap, cap = grownCap (W.alloc (.cells #[.int .i64 x] 3)) (n + 1) c 3 := ⟨_, rfl⟩
      have hge : n + 1 ≤ cap := by rw [hcap]; exact grownCap_ge _ _ _ _
      have hle : cap ≤ maxLen := by rw [hcap]; exact grownCap_le_maxLen _ _ _ _ (by unfold maxLen; omega)
      rw [← hcap]
      obtain ⟨arr, harr⟩ : ∃ arr, arr = ((ints P).take 0).toArray ++ Builtin.zeroCells (Value.int .i64 0).cells (n + 1 - 0) ++ Builtin.zeroCells (Value.int .i64 0).cells (cap - (n + 1)) := ⟨_, rfl⟩
      have hsz : arr.size = cap := by rw [harr]; simp [Builtin.zeroCells, Value.cells]; omega
      rw [← harr]
      have o0 := World.ownsRow_lit (base := base) (e := 3) (size := 1) (W.alloc (.cells #[.int .i64 x] 3)) arr cap (Nat.le_trans hb (by simp)) hle (by rw [Nat.mul_one]; exact hsz)
      have b0 : Below base W ((W.alloc (.cells #[.int .i64 x] 3)).alloc (.cells arr 3)) := hB0.trans ((below_new _ _).mono (Nat.le_trans hb (by simp)))
      obtain ⟨o1, b1⟩ := own_cells [.int .i64 x] arr.toList 0 _ (own_drew o0)
      obtain ⟨o2, b2⟩ := own_cells (ints P) _ 1 _ (own_drew o1)
      refine ⟨_, cap, rfl, ?_, ((b0.drew.trans b1).drew.trans b2)⟩
      have := own_prefix o2 hge
      have hal : arr.toList.length = cap := by simpa using hsz
      have e1 : (setL (setL arr.toList 0 [.int .i64 x]) 1 (ints P)).take (n + 1) = ints (x :: P) := by
        obtain ⟨y, ys', hy⟩ : ∃ y ys', arr.toList = y :: ys' := by
          cases h : arr.toList with
          | nil => rw [h] at hal; simp at hal; omega
          | cons y ys' => exact ⟨y, ys', rfl⟩
        rw [hy] at hal ⊢
        simp only [List.length_cons] at hal
        rw [setL_eq (ints P) _ _ (by rw [setL_len]; simp only [List.length_cons]; omega), setL_eq [.int .i64 x] _ _ (by simp), hPl]
        simp [ints, hn]
      rw [e1] at this
      exact this
end Go.Proofs.Ytnepjahhconodaa
namespace Go.Proofs.Ytnepjahhconodaa
open Go.RowKit

def lenL (n : Nat) (v : Value) : Nat := match v with
  | .slice _ l _ => n + 1 - l
  | _ => 0
/-- On the way back: hall j of those that came, and what lies behind it. -/
structure Wb (R : List (List Int)) (n : Nat) (M H : List Int) (j f : Nat) (out : List Int) : Prop where
  bi : Nt.Bi R n M H H.length 0
  lt : j < H.length
  few : H.length ≤ n
  fuel : j + 2 ≤ f
  len : out.length + j + 1 ≤ n
  back : Nt.back M f (H.getD j 0) out = Nt.wayM M n
theorem Wb.start {R : List (List Int)} {n : Nat} (hn : 2 ≤ n) (h : (Nt.come R n).getD (n - 1) 0 ≠ -2) : ∃ H j, Wb R n (Nt.come R n) H j (n + 1) [] ∧ H.getD j 0 = (n : Int) - 1 := by
  obtain ⟨H, hb⟩ := Nt.come_inv R (n := n) (by omega)
  obtain ⟨j, hj, ej⟩ := (hb.mem (n - 1) (by omega)).1 h
  have hfew : H.length ≤ n := Nt.few hb.lo hb.nd
  have e : H.getD j 0 = (n : Int) - 1 := by rw [ej]; omega
  exact ⟨H, j, ⟨hb, hj, hfew, by omega, by simp; omega, by rw [Nt.wayM, if_neg h, e]⟩, e⟩
theorem Wb.zero {R : List (List Int)} {n : Nat} {M H out : List Int} {f : Nat} (h : Wb R n M H 0 f out) : H.getD 0 0 = 0 ∧ Nt.wayM M n = 0 :: out := by
  refine ⟨h.bi.h0, ?_⟩
  obtain ⟨f, rfl⟩ : ∃ g, f = g + 2 := ⟨f - 2, by have := h.fuel; omega⟩
  have := h.back
  rw [h.bi.h0, Nt.back, if_neg (by omega), Nt.back, if_pos (by rw [show (0 : Int).toNat = 0 from rfl, h.bi.m0]; omega)] at this
  exact this.symm
theorem Wb.step {R : List (List Int)} {n : Nat} {M H out : List Int} {j f : Nat} (h : Wb R n M H j f out) (hj : j ≠ 0) : ∃ (p q : Nat) (l g : Nat), H.getD j 0 = (p : Int) ∧ p ≠ 0 ∧ p < n ∧ M.getD p 0 = (q : Int) ∧ q < n ∧ H.getD l 0 = (q : Int) ∧ Wb R n M H l g ((p : Int) :: out) := by
  obtain ⟨l, hl, e1, _⟩ := h.bi.par j (by omega) h.lt
  have h1 := h.bi.lo j h.lt
  have h2 := h.bi.lo l (by have := h.lt; omega)
  have hne := h.bi.nd j 0 h.lt h.bi.pos hj
  rw [h.bi.h0] at hne
  obtain ⟨p, ep⟩ : ∃ p : Nat, H.getD j 0 = (p : Int) := ⟨(H.getD j 0).toNat, by omega⟩
  obtain ⟨q, eq⟩ : ∃ q : Nat, H.getD l 0 = (q : Int) := ⟨(H.getD l 0).toNat, by omega⟩
  obtain ⟨f, rfl⟩ : ∃ g, f = g + 1 := ⟨f - 1, by have := h.fuel; omega⟩
  have hbk := h.back
  rw [ep, Nt.back, if_neg (by omega), Int.toNat_natCast] at hbk
  rw [ep, eq, Int.toNat_natCast] at e1
  rw [e1] at hbk
  refine ⟨p, q, l, f, ep, by omega, by omega, e1, by omega, eq, h.bi, by have := h.lt; omega, h.few, by have := h.fuel; omega, ?_, by rw [eq]; exact hbk⟩
  have := h.len
  simp only [List.length_cons]
  omega
end Go.Proofs.Ytnepjahhconodaa
namespace Go.Proofs.Ytnepjahhconodaa
open Go.RowKit

set_option maxRecDepth 100000 in
set_option maxHeartbeats 4000000 in
theorem wt_no {a : Option Addr} {n c : Nat} {R : List (List Int)} {w : World} (HN : Hid (R.length = n)) (h2 : 2 ≤ n) (h8 : n ≤ 8) (HRW : Hid (∀ i, i < n → (R.getD i []).length = n)) (H : Hid (CRow w a R)) (HM : Hid ((Nt.come R n).getD (n - 1) 0 = -2)) :
    Calls Try.prog 38 #[.slice a n c] w fun e w' => e = .returned (.slice none 0 0) ∧ Below w.heap.size w w' := by
  have kc : (n : Int) - 1 = ((n - 1 : Nat) : Int) := by omega
  have k0 : (0 : Int) ≤ (n : Int) - 1 := by omega
  have k1 : (n : Int) - 1 < (n : Int) := by omega
  have kt : ((n : Int) - 1).toNat = n - 1 := by omega
  go_enter Try.func38, Try.ntmps38
  go_wp2_with fail
  refine (cam_any HN h2 h8 HRW H).mono ?_
  rintro e w1 ⟨g, rfl, own, hb⟩
  have c0 : w1.cell? ⟨g, ((n : Int) - 1).toNat, none⟩ = some (.int .i64 (-1)) := by
    have hl : (Nt.come R n).length = n := by obtain ⟨H, hb⟩ := Nt.come_inv R (n := n) (by omega); exact hb.len
    rw [kt, own.cellAt (n - 1) (by omega), ints_get _ (n - 1) (by rw [Nt.enc_len, hl]; omega), Nt.enc_at (by rw [hl]; omega), HM.out]
    rfl
  have c0' := c0
  rw [kt] at c0'
  clear own kc
  go_wp2_with fail
  go_ret
  exact ⟨rfl, hb⟩
set_option maxRecDepth 100000 in
set_option maxHeartbeats 4000000 in
theorem wt_yes {a : Option Addr} {n c : Nat} {R : List (List Int)} {w : World} (HN : Hid (R.length = n)) (h2 : 2 ≤ n) (h8 : n ≤ 8) (HRW : Hid (∀ i, i < n → (R.getD i []).length = n)) (H : Hid (CRow w a R)) (HM : Hid ((Nt.come R n).getD (n - 1) 0 ≠ -2)) :
    Calls Try.prog 38 #[.slice a n c] w fun e w' => ∃ v, e = .returned v ∧ w'.ownsRow w.heap.size 3 1 v (Nt.wayM (Nt.come R n) n).length (ints (Nt.wayM (Nt.come R n) n)) ∧ Below w.heap.size w w' := by
  have k0 : (0 : Int) ≤ (n : Int) - 1 := by omega
  have k1 : (n : Int) - 1 < (n : Int) := by omega
  have kt : ((n : Int) - 1).toNat = n - 1 := by omega
  obtain ⟨HH, j0, hwb, ej⟩ := Wb.start (R := R) h2 HM.out
  have HWB := hide hwb
  have HEJ := hide ej
  have hl : Hid ((Nt.come R n).length = n) := hide hwb.bi.len
  clear hwb ej
  go_enter Try.func38, Try.ntmps38
  go_wp2_with fail
  refine (cam_any HN h2 h8 HRW H).mono ?_
  rintro e w1 ⟨g, rfl, own, hb⟩
  have HAT : Hid (∀ (W : World) (i : Nat), Below w1.heap.size w1 W → i < n → W.cell? ⟨g, i, none⟩ = some (.int .i64 (Nt.encF ((Nt.come R n).getD i 0)))) := hide fun W i hW hi => by
    rw [(own_below2 own hW).cellAt i (by omega), ints_get _ i (by rw [Nt.enc_len, hl.out]; exact hi), Nt.enc_at (by rw [hl.out]; exact hi)]
  have HBE := hide hb
  clear own hb
  have c0 := HAT.out w1 (n - 1) (Below.refl _ _) (by omega)
  rw [← kt] at c0
  have hne : (Nt.encF ((Nt.come R n).getD ((n : Int) - 1).toNat 0) == (-1 : Int)) = false := by
    rw [beq_eq_false_iff_ne, kt]; exact fun e => HM.out ((Nt.encF_no _).1 e)
  generalize Nt.encF ((Nt.come R n).getD ((n : Int) - 1).toNat 0) = z at c0 hne
  have c0' := c0
  rw [kt] at c0'
  have HO0 : Hid ((w1.alloc (.cells #[.int .i64 ((n : Int) - 1)] 3)).ownsRow w1.heap.size 3 1 (.slice (some ⟨w1.heap.size, 0, none⟩) 1 1) 1 (ints [(n : Int) - 1])) := hide (by
    have := World.ownsRow_lit (base := w1.heap.size) (e := 3) (size := 1) w1 #[.int .i64 ((n : Int) - 1)] 1 (Nat.le_refl _) (by unfold maxLen; omega) rfl
    exact this)
  have HB0 := hide (below_new w1 (.cells #[.int .i64 ((n : Int) - 1)] 3))
  go_wp2_with fail
  go_loopw [5] (fun s5 wr => ∃ (b c' j f : Nat) (out : List Int), s5 = .slice (some ⟨b, 0, none⟩) (out.length + 1) c' ∧ Hid (wr.ownsRow w1.heap.size 3 1 (.slice (some ⟨b, 0, none⟩) (out.length + 1) c') (out.length + 1) (ints (HH.getD j 0 :: out))) ∧ Hid (Wb R n (Nt.come R n) HH j f out) ∧ Hid (Below w1.heap.size w1 wr)) (fun s5 _ => lenL n s5)
  case atStart => exact ⟨w1.heap.size, 1, j0, n + 1, [], rfl, hide (by rw [HEJ.out]; exact HO0.out), HWB, HB0⟩
  case round =>
    clear HO0 HB0 HWB c0 c0' hne
    obtain ⟨b, c', j, f, out, rfl, HO, HW, HB⟩ := hrel
    have hlen := HW.out.len
    have hj := HW.out.fuel
    obtain ⟨m, hm⟩ : ∃ m, out.length = m := ⟨_, rfl⟩
    rw [hm] at HO hlen ⊢
    have HM2 := hide hm
    clear hm
    have m0 : (0 : Int) < (m : Int) + 1 := by omega
    by_cases h0 : j = 0
    · subst h0
      obtain ⟨z1, z2⟩ := HW.out.zero
      have d0 : wr.cell? ⟨b, 0, none⟩ = some (.int .i64 0) := by rw [HO.out.cellAt 0 (by omega), z1]; rfl
      have HE : Hid (wr.ownsRow w.heap.size 3 1 (.slice (some ⟨b, 0, none⟩) (m + 1) c') (Nt.wayM (Nt.come R n) n).length (ints (Nt.wayM (Nt.come R n) n))) := hide (by
        rw [z2, List.length_cons, HM2.out, ← z1]
        exact own_low2 HO.out HBE.out.size)
      have HBX := hide (HBE.out.trans (HB.out.mono HBE.out.size))
      clear z1 z2
      go_wp2_with fail
      go_ret
      exact ⟨_, rfl, HE.out, HBX.out⟩
    · obtain ⟨p, q, l, f', ep, hp0, hpn, eq, hqn, el, hwb2⟩ := HW.out.step h0
      have d0 : wr.cell? ⟨b, 0, none⟩ = some (.int .i64 (p : Int)) := by rw [HO.out.cellAt 0 (by omega), ep]; rfl
      have d1 := HAT.out wr p HB.out hpn
      rw [eq, Nt.encF_nn (by omega)] at d1
      have hpe : ((p : Int) != 0) = true := by simp; omega
      have p0 : (0 : Int) ≤ (p : Int) := by omega
      have p1 : (p : Int) < (n : Int) := by omega
      have HWB2 := hide hwb2
      have HO2 : Hid (wr.ownsRow w1.heap.size 3 1 (.slice (some ⟨b, 0, none⟩) (m + 1) c') (m + 1) (ints ((p : Int) :: out))) := hide (by rw [← ep]; exact HO.out)
      have HEL := hide el
      clear hwb2 el ep eq HO HW
      go_wp2_with fail
      refine (ins13 HO2.out (by simp [HM2.out]) (by omega) (by omega) HB.out.size).mono ?_
      rintro e w5 ⟨b5, c5, rfl, own5, hb5⟩
      have HO5 : Hid (w5.ownsRow w1.heap.size 3 1 (.slice (some ⟨b5, 0, none⟩) (((p : Int) :: out).length + 1) c5) (((p : Int) :: out).length + 1) (ints (HH.getD l 0 :: (p : Int) :: out))) := hide (by
        rw [HEL.out, List.length_cons, HM2.out]; exact own5)
      have HB5 := hide (HB.out.trans hb5)
      clear own5 hb5
      go_wp2_with fail
      go_roundw
      case rel => exact ⟨b5, c5, l, f', (p : Int) :: out, by simp [HM2.out], HO5, HWB2, HB5⟩
      case measure => have := HM2.out; simp only [lenL]; omega
theorem wt_any {a : Option Addr} {n c : Nat} {R : List (List Int)} {w : World} (HN : Hid (R.length = n)) (h2 : 2 ≤ n) (h8 : n ≤ 8) (HRW : Hid (∀ i, i < n → (R.getD i []).length = n)) (H : Hid (CRow w a R)) :
    Calls Try.prog 38 #[.slice a n c] w fun e w' => ∃ v, e = .returned v ∧ w'.ownsRow w.heap.size 3 1 v (Nt.wayM (Nt.come R n) n).length (ints (Nt.wayM (Nt.come R n) n)) ∧ Below w.heap.size w w' := by
  by_cases h : (Nt.come R n).getD (n - 1) 0 = -2
  · refine (wt_no HN h2 h8 HRW H (hide h)).mono fun e w' ⟨h1, h2⟩ => ⟨_, h1, ?_, h2⟩
    rw [Nt.way_no h]
    exact World.ownsRow_nil _ _ _ _
  · exact wt_yes HN h2 h8 HRW H (hide h)
end Go.Proofs.Ytnepjahhconodaa
namespace Go.Proofs.Ytnepjahhconodaa
open Go.RowKit

theorem take_mid {α : Type} (l : List α) (x : α) (r : List α) : (l ++ x :: r).take (l.length + 1) = l ++ [x] := by
  induction l with
  | nil => simp
  | cons a l ih => simpa using ih
/-- A line: its numbers lie from i on in a block of its own. -/
def QQ (W : World) (base : Nat) (v : Value) (Q : List Int) : Prop := ∃ g i c ys, v = .slice (some ⟨g, i, none⟩) Q.length c ∧ Q.length ≤ c ∧ (c = 0 ∨ i + c = ys.length) ∧ W.ownsRow base 3 1 (.slice (some ⟨g, 0, none⟩) ys.length ys.length) ys.length ys ∧ (ys.drop i).take Q.length = ints Q
theorem QQ.keep {W W' : World} {base : Nat} {v : Value} {Q : List Int} (h : QQ W base v Q) (hb : ∀ g, base ≤ g → g < W.heap.size → W'.heap[g]? = W.heap[g]?) : QQ W' base v Q := by
  obtain ⟨g, i, c, ys, h1, h2, h3, h4, h5⟩ := h
  exact ⟨g, i, c, ys, h1, h2, h3, own_keep2 h4 fun b hv hl => hb b (h4.lt b hv).1 hl, h5⟩
theorem QQ.below {W W' : World} {base : Nat} {v : Value} {Q : List Int} (h : QQ W base v Q) (hb : Below W.heap.size W W') : QQ W' base v Q := h.keep fun g _ hl => hb.block g hl
theorem QQ.len {W : World} {base : Nat} {v : Value} {Q : List Int} (h : QQ W base v Q) : ∃ a c, v = .slice a Q.length c := by
  obtain ⟨g, i, c, _, h1, _⟩ := h
  exact ⟨_, c, h1⟩
theorem QQ.one (w : World) (x : Int) : QQ (w.alloc (.cells #[.int .i64 x] 3)) w.heap.size (.slice (some ⟨w.heap.size, 0, none⟩) 1 1) [x] := by
  have := World.ownsRow_lit (base := w.heap.size) (e := 3) (size := 1) w #[.int .i64 x] 1 (Nat.le_refl _) (by unfold maxLen; omega) rfl
  exact ⟨w.heap.size, 0, 1, [.int .i64 x], rfl, by simp, Or.inr rfl, this, rfl⟩
/-- The first one. -/
theorem QQ.head {W : World} {base : Nat} {v : Value} {a : Int} {Q : List Int} (h : QQ W base v (a :: Q)) : ∃ g i c, v = .slice (some ⟨g, i, none⟩) (Q.length + 1) c ∧ Q.length + 1 ≤ c ∧ W.cell? ⟨g, i, none⟩ = some (.int .i64 a) ∧ (c = 1 → QQ W base (.slice (some ⟨g, i, none⟩) Q.length 0) Q) ∧ (c ≠ 1 → QQ W base (.slice (some ⟨g, i + 1, none⟩) Q.length (c - 1)) Q) := by
  obtain ⟨g, i, c, ys, h1, h2, h3, h4, h5⟩ := h
  simp only [List.length_cons] at h1 h2 h5
  have hic : i + c = ys.length := by omega
  have hd : ys.drop i = ys[i]'(by omega) :: ys.drop (i + 1) := List.drop_eq_getElem_cons (by omega)
  rw [hd, List.take_succ_cons] at h5
  have e1 : ys[i]'(by omega) = .int .i64 a := (List.cons.inj h5).1
  have e2 : (ys.drop (i + 1)).take Q.length = ints Q := (List.cons.inj h5).2
  refine ⟨g, i, c, h1, h2, ?_, fun hc => ?_, fun hc => ?_⟩
  · rw [h4.cellAt i (by omega), List.getElem?_eq_getElem (by omega), e1]
  · have : Q = [] := List.length_eq_zero_iff.1 (by omega)
    subst this
    exact ⟨g, i, 0, ys, rfl, Nat.le_refl _, Or.inl rfl, h4, by simp [ints]⟩
  · exact ⟨g, i + 1, c - 1, ys, rfl, by omega, Or.inr (by omega), h4, e2⟩
theorem QQ.push {W : World} {base : Nat} {v : Value} {Q : List Int} {x : Int} (h : QQ W base v Q) (hb : base ≤ W.heap.size) (hq : Q.length ≤ 1000) :
    ∃ v' w', (∀ ty, (Builtin.append_ #[25, 25] ty #[v, .slice (some ⟨W.heap.size, 0, none⟩) 1 1]).run Try.prog (W.alloc (.cells #[.int .i64 x] 3)) = .ok v' w') ∧ QQ w' base v' (Q ++ [x]) ∧ Below base W w' := by
  obtain ⟨g, i, c, ys, rfl, h2, h3, h4, h5⟩ := h
  obtain ⟨i0, hi, hz0, hz1, hz2⟩ := infoI
  have h4' := h4.alloc (.cells #[.int .i64 x] 3)
  have hB0 : Below base W (W.alloc (.cells #[.int .i64 x] 3)) := (below_new W _).mono hb
  have hs : _root_.Go.Src Try.prog i0.size 25 (.slice (some ⟨W.heap.size, 0, none⟩) 1 1) 1 [.int .i64 x] (W.alloc (.cells #[.int .i64 x] 3)) := _root_.Go.Src.ofSlice _ Try.underlying25 ⟨W.heap.size, 0, none⟩ 1 1 [.int .i64 x] (by rw [hz1]; rfl) (fun j u hj => by
    have hj0 : j = 0 := by have := (List.getElem?_eq_some_iff.1 hj).1; simpa using this
    subst hj0
    simp at hj
    subst hj
    rw [add_plain']
    simp) (fun u hu => by simp at hu; subst hu; rfl)
  have hlq : (ints Q).length = Q.length := by simp [ints]
  by_cases hroom : Q.length + 1 ≤ c
  · have hic : i + c = ys.length := by omega
    have hr := fun ty => run_append_room_src (P := Try.prog) (W.alloc (.cells #[.int .i64 x] 3)) 25 25 ty 3 i0 Try.underlying25 hi g i Q.length c _ 1 [.int .i64 x] hs hroom (fun j hj => by
      simp at hj; subst hj
      rw [hz1, Nat.mul_one, Nat.add_zero, h4'.cellAt (i + Q.length) (by omega), List.getElem?_eq_getElem (by omega)]; rfl) (fun j _ => h4'.frozenAt _)
    rw [hz1, Nat.mul_one] at hr
    obtain ⟨o1, b1⟩ := own_cells [.int .i64 x] ys (i + Q.length) _ h4'
    refine ⟨_, _, hr, ⟨g, i, c, setL ys (i + Q.length) [.int .i64 x], by rw [List.length_append]; rfl, by rw [List.length_append]; exact hroom, Or.inr (by rw [setL_len]; exact hic), by rw [setL_len]; exact o1, ?_⟩, hB0.trans b1⟩
    rw [setL_eq _ _ _ (by simp; omega), List.append_assoc, List.drop_append, List.length_append]
    have e1 : (ys.take (i + Q.length)).length = i + Q.length := by rw [List.length_take]; omega
    have e2 : (ys.take (i + Q.length)).drop i = ints Q := by
      rw [List.drop_take, show i + Q.length - i = Q.length by omega]; exact h5
    rw [e2, e1, show i - (i + Q.length) = 0 by omega, List.drop_zero]
    rw [← hlq]
    have := take_mid (ints Q) (Value.int .i64 x) (ys.drop (i + (ints Q).length + 1))
    simpa [ints] using this
  · have hfull : Q.length = c := by omega
    have hold : (Builtin.firstCells i0.size Q.length (.slice (some ⟨g, i, none⟩) Q.length c)).run Try.prog (W.alloc (.cells #[.int .i64 x] 3)).drew = .ok (ints Q).toArray (W.alloc (.cells #[.int .i64 x] 3)).drew := by
      refine run_firstCells_some _ i0.size Q.length ⟨g, i, none⟩ Q.length c (ints Q) (by rw [hz1, Nat.mul_one, hlq]) fun j u hj => ?_
      have hjl : j < Q.length := by have := (List.getElem?_eq_some_iff.1 hj).1; omega
      rw [add_plain']
      have hic : i + c = ys.length := by omega
      rw [(own_drew h4').cellAt (i + j) (by omega), ← hj, ← h5, List.getElem?_take_of_lt hjl, List.getElem?_drop]
    have hcap : c ≤ 1000 := by omega
    have hr := fun ty => run_append_grow_src (P := Try.prog) (W.alloc (.cells #[.int .i64 x] 3)) 25 25 ty 3 i0 _ Try.underlying25 hi hz0 (some ⟨g, i, none⟩) Q.length c (ints Q) hold _ 1 [.int .i64 x] hs (by omega) (by omega) (by
      have := nextslicecap_le (need := Q.length + 1) (old := c) (by omega)
      rw [hz2]; omega)
    obtain ⟨cap, hcp⟩ : ∃ cap, cap = grownCap (W.alloc (.cells #[.int .i64 x] 3)) (Q.length + 1) c 3 := ⟨_, rfl⟩
    have hge : Q.length + 1 ≤ cap := by rw [hcp]; exact grownCap_ge _ _ _ _
    have hle : cap ≤ maxLen := by rw [hcp]; exact grownCap_le_maxLen _ _ _ _ (by unfold maxLen; omega)
    rw [← hcp] at hr
    obtain ⟨arr, harr⟩ : ∃ arr, arr = (ints Q ++ [Value.int .i64 x]).toArray ++ Builtin.zeroCells (Value.int .i64 0).cells (cap - (Q.length + 1)) := ⟨_, rfl⟩
    rw [← harr] at hr
    have hsz : arr.size = cap := by rw [harr]; simp [Builtin.zeroCells, Value.cells, ints]; omega
    have o0 := World.ownsRow_lit (base := base) (e := 3) (size := 1) (W.alloc (.cells #[.int .i64 x] 3)).drew arr cap (Nat.le_trans hb (by simp)) hle (by rw [Nat.mul_one]; exact hsz)
    have hal : arr.toList.length = cap := by simpa using hsz
    refine ⟨_, _, hr, ⟨_, 0, cap, arr.toList, ?_, by rw [List.length_append]; exact hge, Or.inr (by rw [hal]; omega), by rw [hal]; exact o0, ?_⟩, hB0.drew.trans ((below_new _ _).mono (Nat.le_trans hb (by simp)))⟩
    · rw [List.length_append]; rfl
    · have := take_mid (ints Q) (Value.int .i64 x) (Builtin.zeroCells (Value.int .i64 0).cells (cap - (Q.length + 1))).toList
      rw [List.drop_zero, harr]
      simpa [ints] using this
end Go.Proofs.Ytnepjahhconodaa
namespace Go.Proofs.Ytnepjahhconodaa
open Go.RowKit

/-- The model's search: gf the halls come from, vq those that wait. -/
structure CM (w0 : World) (n gf base : Nat) (M Q : List Int) (vq : Value) (w : World) : Prop where
  own : w.ownsRow w0.heap.size 3 1 (.slice (some ⟨gf, 0, none⟩) n n) n (ints M)
  q : QQ w base vq Q
  lt : gf < base
  ble : base ≤ w.heap.size
  bel : Below w0.heap.size w0 w
  len : M.length = n
theorem CM.at {w0 w : World} {n gf base k : Nat} {M Q : List Int} {vq : Value} (h : CM w0 n gf base M Q vq w) (hk : k < n) : w.cell? ⟨gf, k, none⟩ = some (.int .i64 (M.getD k 0)) ∧ w.frozen? ⟨gf, k, none⟩ = false := by
  refine ⟨?_, h.own.frozenAt k⟩
  rw [h.own.cellAt k (by omega), ints_get _ k (by rw [h.len]; exact hk)]
theorem CM.below {w0 w w' : World} {n gf base : Nat} {M Q : List Int} {vq : Value} (h : CM w0 n gf base M Q vq w) (hb : Below w.heap.size w w') : CM w0 n gf base M Q vq w' :=
  ⟨own_below2 h.own hb, h.q.below hb, h.lt, Nat.le_trans h.ble hb.size, h.bel.trans (hb.mono h.bel.size), h.len⟩
theorem CM.store {w0 w : World} {n gf base k : Nat} {M Q : List Int} {vq : Value} {a : Int} (h : CM w0 n gf base M Q vq w) : CM w0 n gf base (M.set k a) Q vq (w.setCell ⟨gf, k, none⟩ (.int .i64 a)) := by
  obtain ⟨st1, st2⟩ := h.own.stored k (.int .i64 a)
  rw [ints_set] at st1
  have hlt := h.lt
  exact ⟨st1, h.q.keep fun g hg _ => Below.heap_setCell w ⟨gf, k, none⟩ _ g (by show g ≠ gf; omega), h.lt, by simpa using h.ble, h.bel.setCell (p := ⟨gf, k, none⟩) (h.own.lt gf rfl).1 _, by rw [List.length_set]; exact h.len⟩
theorem CM.push {w0 w : World} {n gf base : Nat} {M Q : List Int} {vq : Value} {x : Int} (h : CM w0 n gf base M Q vq w) (hq : Q.length ≤ 1000) (hlo : w0.heap.size ≤ base) :
    ∃ v' w', (∀ ty, (Builtin.append_ #[25, 25] ty #[vq, .slice (some ⟨w.heap.size, 0, none⟩) 1 1]).run Try.prog (w.alloc (.cells #[.int .i64 x] 3)) = .ok v' w') ∧ CM w0 n gf base M (Q ++ [x]) v' w' := by
  obtain ⟨v', w', h1, h2, h3⟩ := h.q.push (x := x) h.ble hq
  have hlt := h.lt
  exact ⟨v', w', h1, own_keep2 h.own fun b hv _ => by
    have : gf = b := by simpa [Value.ownBlock] using hv
    subst this
    exact h3.block gf hlt, h2, h.lt, Nat.le_trans h.ble h3.size, h.bel.trans (h3.mono hlo), h.len⟩
def isM2 (o : Option Value) : Bool := match o with
  | some (.int _ x) => x == -2
  | _ => false
def cntW (w : World) (gf : Nat) : Nat → Nat
  | 0 => 0
  | k + 1 => cntW w gf k + (if isM2 (w.cell? ⟨gf, k, none⟩) then 1 else 0)
theorem cnt_take {w : World} {gf n : Nat} {M : List Int} (hn : M.length = n) (h : ∀ k, k < n → w.cell? ⟨gf, k, none⟩ = some (.int .i64 (M.getD k 0))) : ∀ k, k ≤ n → cntW w gf k = (M.take k).count (-2)
  | 0, _ => by simp [cntW]
  | k + 1, hk => by
    rw [cntW, cnt_take hn h k (by omega), h k (by omega), List.take_succ_eq_append_getElem (by omega), List.count_append, List.count_singleton]
    simp only [isM2]
    rw [Pf.getD_lt _ _ (show k < M.length by omega)]
    rfl
def lenV (v : Value) : Nat := match v with
  | .slice _ l _ => l
  | _ => 0
def msq (n gf : Nat) (v : Value) (w : World) : Nat := cntW w gf n + lenV v
theorem CM.msq {w0 w : World} {n gf base : Nat} {M Q : List Int} {vq : Value} (h : CM w0 n gf base M Q vq w) : msq n gf vq w = Nt.open2 M Q := by
  obtain ⟨a, c, e⟩ := h.q.len
  unfold Proofs.Ytnepjahhconodaa.msq Nt.open2
  rw [e, cnt_take h.len (fun k hk => (h.at hk).1) n (Nat.le_refl _), List.take_of_length_le (by rw [h.len]; exact Nat.le_refl _)]
  rfl
theorem scan_mem2 {R : List (List Int)} {a : Int} {M Q : List Int} {n : Nat} (h : ∀ x ∈ Q, 0 ≤ x ∧ x < (n : Int)) : ∀ k, k ≤ n → ∀ x ∈ (Nt.scanTo R a M Q k).2, 0 ≤ x ∧ x < (n : Int)
  | 0, _ => h
  | k + 1, hk => by
    have ih := scan_mem2 (R := R) (a := a) (M := M) h k (by omega)
    rw [Nt.scanTo]
    split
    · intro x hx
      rcases List.mem_append.1 hx with hx | hx
      · exact ih x hx
      · simp at hx; omega
    · exact ih
/-- What holds where the line is looked at. -/
structure CMo (w0 : World) (R : List (List Int)) (n gf base f : Nat) (M Q : List Int) (vq : Value) (w : World) : Prop where
  cm : CM w0 n gf base M Q vq w
  bfs : Nt.bfs R n f M Q = Nt.come R n
  fuel : Nt.open2 M Q ≤ f
  few : Nt.open2 M Q ≤ n
  mem : ∀ x ∈ Q, 0 ≤ x ∧ x < (n : Int)
theorem fill_set {n k : Nat} {zs : List Int} (hz : zs.length = n) (hk : k < n) (h : zs.take k = List.replicate k (-2)) : (zs.set k (-2)).take (k + 1) = List.replicate (k + 1) (-2) := by
  rw [List.take_succ_eq_append_getElem (by simp; omega)]
  simp only [List.getElem_set_self, List.take_set_of_le (Nat.le_refl k)]
  rw [h, ← List.replicate_succ']
set_option maxRecDepth 100000 in
set_option maxHeartbeats 8000000 in
theorem slc_any {aw af : Option Addr} {n c d : Nat} {W F : List (List Int)} {w : World} (HN : Hid (W.length = n)) (HF : Hid (Nt.NF W F)) (HW : Hid (CRow w aw W)) (HA : Hid (CRow w af F)) :
    Calls Try.prog 21 #[.slice aw n c, .slice af n d] w fun e w' => ∃ g, e = .returned (.slice (some ⟨g, 0, none⟩) n n) ∧ w'.ownsRow w.heap.size 3 1 (.slice (some ⟨g, 0, none⟩) n n) n (ints (Nt.come (Nt.rooms W F) n)) ∧ Below w.heap.size w w' := by
  have h8 := Nt.rowsB_len (Nt.netB_rows HF.out.net)
  rw [HN.out] at h8
  obtain ⟨h2, h8⟩ := h8
  have hmk := makeI_run n (by omega)
  have HMO := hide (made_own w n (by omega))
  have HRA : Hid (∀ p k, p < n → k < n → Nt.at2 (Nt.rooms W F) p k = Nt.roomAt W F p k) := hide fun p k hp hk => Nt.rooms_at W F (by rw [HN.out]; exact hp) (by rw [HN.out]; exact hk)
  have n0 : (0 : Int) < (n : Int) := by omega
  go_enter Try.func21, Try.ntmps21
  go_wp2_with fail
  go_loopw [6, 15] (fun _ sk wr => ∃ (k : Nat) (zs : List Int), sk = .int .i64 k ∧ k ≤ n ∧ zs.length = n ∧ Hid (zs.take k = List.replicate k (-2)) ∧ Hid (wr.ownsRow w.heap.size 3 1 (.slice (some ⟨w.heap.size, 0, none⟩) n n) n (ints zs)) ∧ Hid (Below w.heap.size w wr)) (fun _ sk _ => n - (intOf sk).toNat)
  case atStart => exact ⟨0, List.replicate n 0, rfl, Nat.zero_le _, by simp, hide (by simp), HMO, hide (below_new _ _)⟩
  case round =>
    clear HMO hmk
    obtain ⟨k, zs, rfl, hk, hzl, HT, HO, HB⟩ := hrel
    by_cases hlt : k < n
    · have k0 : (0 : Int) ≤ (k : Int) := by omega
      have k1 : (k : Int) < (n : Int) := by omega
      have c0 : wr.cell? ⟨w.heap.size, k, none⟩ = some (.int .i64 (zs.getD k 0)) := by rw [HO.out.cellAt k (by omega), ints_get _ k (by omega)]
      have f0 := HO.out.frozenAt k
      have st1 := (HO.out.stored k (.int .i64 (-2))).1
      rw [ints_set] at st1
      have HO2 := hide st1
      have HT2 := hide (fill_set hzl hlt HT.out)
      have HB2 := hide (HB.out.setCell (p := ⟨w.heap.size, k, none⟩) (Nat.le_refl _) (.int .i64 (-2)))
      generalize zs.getD k 0 = z at c0
      clear st1 HO HB HT
      go_wp2_with fail
      go_roundw
      case rel => exact ⟨k + 1, _, by go_num, by omega, by simpa using hzl, HT2, HO2, HB2⟩
      case measure => simp only [intOf]; omega
    · have hke : k = n := by omega
      subst hke
      have hzs : zs = List.replicate k (-2) := by have := HT.out; rwa [List.take_of_length_le (by omega)] at this
      subst hzs
      obtain ⟨gf, hgf⟩ : ∃ gf, gf = w.heap.size := ⟨_, rfl⟩
      have HGF := hide hgf
      have c0 : wr.cell? ⟨gf, 0, none⟩ = some (.int .i64 (-2)) := by rw [hgf, HO.out.cellAt 0 (by omega), ints_get _ 0 (by omega)]; simp [show 0 < k by omega]
      have f0 : wr.frozen? ⟨gf, 0, none⟩ = false := by rw [hgf]; exact HO.out.frozenAt 0
      have st1 := (HO.out.stored 0 (.int .i64 (-1))).1
      rw [ints_set] at st1
      have hgl : gf < wr.heap.size := by rw [hgf]; exact (HO.out.lt _ rfl).2
      have HI : Hid (CMo w (Nt.rooms W F) k gf wr.heap.size k (Nt.start k) [0] (.slice (some ⟨wr.heap.size, 0, none⟩) 1 1) ((wr.setCell ⟨gf, 0, none⟩ (.int .i64 (-1))).alloc (.cells #[.int .i64 0] 3))) := hide (by
        have hs : (wr.setCell ⟨gf, 0, none⟩ (.int .i64 (-1))).heap.size = wr.heap.size := World.size_setCell _ _ _
        have hq := QQ.one (wr.setCell ⟨gf, 0, none⟩ (.int .i64 (-1))) 0
        rw [hs] at hq
        refine ⟨⟨?_, hq, hgl, by simp, ?_, Nt.start_len k⟩, rfl, by rw [Nt.start_open (by omega)]; exact Nat.le_refl _, by rw [Nt.start_open (by omega)]; exact Nat.le_refl _, fun x hx => by simp at hx; omega⟩
        · refine own_below2 ?_ (below_new _ _)
          rw [hgf]; exact st1
        · refine (HB.out.setCell (p := ⟨gf, 0, none⟩) (by rw [hgf]; exact Nat.le_refl _) _).trans ((below_new _ _).mono ?_)
          rw [hs]; exact HB.out.size)
      have HLO : Hid (w.heap.size ≤ wr.heap.size) := hide HB.out.size
      obtain ⟨base, hbase⟩ : ∃ base, base = wr.heap.size := ⟨_, rfl⟩
      rw [← hbase] at HI HLO
      rw [← hgf]
      have HBA := hide hbase
      have hsz : (wr.setCell ⟨gf, 0, none⟩ (.int .i64 (-1))).heap.size = base := by rw [hbase]; exact World.size_setCell _ _ _
      clear st1 HO HB HT hzl hgf hgl hbase
      go_wp2_with fail
      go_loopw [7, 8, 9] (fun s7 _ _ wr => ∃ (f : Nat) (M Q : List Int), Hid (CMo w (Nt.rooms W F) k gf base f M Q s7 wr)) (fun s7 _ _ wr => msq k gf s7 wr)
      case atStart => exact ⟨k, Nt.start k, [0], HI⟩
      case round =>
        clear HI c0 f0 hsz
        obtain ⟨f, M, Q, HC⟩ := hrel
        obtain ⟨aq, cq, eq⟩ := HC.out.cm.q.len
        subst eq
        have HMS := hide HC.out.cm.msq
        cases Q with
        | nil =>
          have HE : Hid (M = Nt.come (Nt.rooms W F) k) := hide (by have := HC.out.bfs; cases f <;> exact this)
          have HOE : Hid (wr.ownsRow w.heap.size 3 1 (.slice (some ⟨gf, 0, none⟩) k k) k (ints (Nt.come (Nt.rooms W F) k))) := hide (by rw [← HE.out]; exact HC.out.cm.own)
          have HBE := hide HC.out.cm.bel
          clear HC HE HMS
          go_wp2_with fail
          go_ret
          exact ⟨gf, rfl, HOE.out, HBE.out⟩
        | cons a Q =>
          obtain ⟨g, i, cc, e1, hcc, r1, hq1, hq2⟩ := HC.out.cm.q.head
          simp only [List.length_cons] at e1 ⊢
          cases e1
          have ha := HC.out.mem a List.mem_cons_self
          obtain ⟨p, rfl⟩ : ∃ p : Nat, a = (p : Int) := ⟨a.toNat, by omega⟩
          have hpk : p < k := by omega
          have HQ1 := hide hq1
          have HQ2 := hide hq2
          obtain ⟨L, hL⟩ : ∃ L, Q.length = L := ⟨_, rfl⟩
          have HL := hide hL
          have hms := HMS.out
          simp only [List.length_cons] at hms
          rw [hL] at hcc HQ1 HQ2 hms ⊢
          have hL0 : (0 : Int) < (L : Int) + 1 := by omega
          have hL1 : (1 : Int) ≤ (L : Int) + 1 := by omega
          have hL2 : (L : Int) + 1 ≤ (cq : Int) := by omega
          have HM : Hid (∀ x ∈ Q, 0 ≤ x ∧ x < (k : Int)) := hide fun x hx => HC.out.mem x (List.mem_cons_of_mem _ hx)
          have HOP : Hid (Nt.open2 M ((p : Int) :: Q) = Nt.open2 M Q + 1) := hide (by unfold Nt.open2; simp only [List.length_cons]; omega)
          have HFE := hide HC.out.few
          have HFU := hide HC.out.fuel
          have HBF := hide HC.out.bfs
          have HML := hide HC.out.cm.len
          have HCMQ : Hid (∀ v, QQ wr base v Q → CM w k gf base M Q v wr) := hide fun v hv => { HC.out.cm with q := hv }
          rw [HOP.out] at hms HFE HFU
          have HMS2 := hide hms
          clear hq1 hq2 hL HC ha hms HMS
          go_upto_region 11 with fail
          go_cut [7] from 25 to 59 (fun s7 wc => Hid (QQ wr base s7 Q) ∧ wc = wr)
          case first =>
            by_cases hc1 : cq = 1
            · subst hc1
              have hl0 : L = 0 := by omega
              subst hl0
              have H1 := hide (HQ1.out rfl)
              go_wp2_with fail
              go_meet
              case rel => exact ⟨H1, rfl⟩
            · have H1 := hide (HQ2.out hc1)
              go_wp2_with fail
              go_meet
              case rel => exact ⟨H1, rfl⟩
          case rest =>
            obtain ⟨HQ, rfl⟩ := hcut
            obtain ⟨a7, c7, e7⟩ := HQ.out.len
            subst e7
            have HCM := hide (HCMQ.out _ HQ.out)
            have p0 : (0 : Int) ≤ (p : Int) := by omega
            have p1 : (p : Int) < (k : Int) := by omega
            clear HQ HCMQ HQ1 HQ2 r1
            go_wp2_with fail
            go_loopw [7, 9, 35] (fun s7 _ sj wq => ∃ (j : Nat), sj = .int .i64 j ∧ j ≤ k ∧ Hid (CM w k gf base (Nt.scanTo (Nt.rooms W F) p M Q j).1 (Nt.scanTo (Nt.rooms W F) p M Q j).2 s7 wq)) (fun _ _ sj _ => k - (intOf sj).toNat)
            case atStart => exact ⟨0, rfl, Nat.zero_le _, HCM⟩
            case round =>
              clear HCM
              obtain ⟨j, rfl, hj, HCM⟩ := hrel
              obtain ⟨a8, c8, e8⟩ := HCM.out.q.len
              subst e8
              by_cases hjk : j < k
              · obtain ⟨c3, f3⟩ := HCM.out.at hjk
                have j0 : (0 : Int) ≤ (j : Int) := by omega
                have j1 : (j : Int) < (k : Int) := by omega
                have HST : Hid (Nt.scanTo (Nt.rooms W F) p M Q (j + 1) = if (Nt.scanTo (Nt.rooms W F) p M Q j).1.getD j 0 = -2 ∧ 0 < Nt.at2 (Nt.rooms W F) p j then ((Nt.scanTo (Nt.rooms W F) p M Q j).1.set j p, (Nt.scanTo (Nt.rooms W F) p M Q j).2 ++ [(j : Int)]) else Nt.scanTo (Nt.rooms W F) p M Q j) := hide rfl
                rw [HRA.out p j hpk hjk] at HST
                by_cases hy : (Nt.scanTo (Nt.rooms W F) p M Q j).1.getD j 0 = -2
                · have hq : (Nt.scanTo (Nt.rooms W F) p M Q j).2.length ≤ 1000 := by
                    have h1 := Nt.open_pos (M := (Nt.scanTo (Nt.rooms W F) p M Q j).1) (Q := (Nt.scanTo (Nt.rooms W F) p M Q j).2) (k := j) (by rw [HCM.out.len]; exact hjk) hy
                    have h2 := Nt.scan_open (R := Nt.rooms W F) (a := (p : Int)) (M := M) (Q := Q) (by omega) j (by rw [HML.out]; omega)
                    have h3 := HFE.out
                    omega
                  rw [hy] at c3
                  have HRM := hide (slm_any (c := c) (d := d) HN hpk hjk HF (hide (HW.out.below HCM.out.bel)) (hide (HA.out.below HCM.out.bel)))
                  generalize Nt.roomAt W F p j = x at *
                  by_cases hx : 0 < x
                  · have hx' : ¬ x ≤ 0 := by omega
                    have HS : Hid (Nt.scanTo (Nt.rooms W F) p M Q (j + 1) = ((Nt.scanTo (Nt.rooms W F) p M Q j).1.set j p, (Nt.scanTo (Nt.rooms W F) p M Q j).2 ++ [(j : Int)])) := hide (by rw [HST.out, if_pos ⟨hy, hx⟩])
                    clear hy HST
                    go_wp2_with fail
                    refine HRM.out.mono ?_
                    rintro e w6 ⟨rfl, hb6⟩
                    have HC6 := hide (HCM.out.below hb6)
                    obtain ⟨d3, g3⟩ := HC6.out.at hjk
                    have hcs := HC6.out.store (k := j) (a := (p : Int))
                    obtain ⟨v7, w7, p7, hc7⟩ := hcs.push (x := (j : Int)) hq HLO.out
                    rw [World.size_setCell] at p7
                    have HC7 : Hid (CM w k gf base (Nt.scanTo (Nt.rooms W F) p M Q (j + 1)).1 (Nt.scanTo (Nt.rooms W F) p M Q (j + 1)).2 v7 w7) := hide (by rw [HS.out]; exact hc7)
                    generalize (Nt.scanTo (Nt.rooms W F) p M Q j).1.getD j 0 = zz at d3
                    clear hb6 hcs hc7 HCM HC6 HRM c3 f3 HS
                    go_wp2_with (first | (at_builtin; refine Lib.wpList_append_run _ rfl _ _ 25 25 rfl _ _ rfl rfl _ _ (p7 _) ?_))
                    go_roundw
                    case rel => exact ⟨j + 1, by go_num, by omega, HC7⟩
                    case measure => simp only [intOf]; omega
                  · have hx' : x ≤ 0 := by omega
                    have HS : Hid (Nt.scanTo (Nt.rooms W F) p M Q (j + 1) = Nt.scanTo (Nt.rooms W F) p M Q j) := hide (by rw [HST.out, if_neg (fun h => hx h.2)])
                    clear hy HST
                    go_wp2_with fail
                    refine HRM.out.mono ?_
                    rintro e w6 ⟨rfl, hb6⟩
                    have HC6 : Hid (CM w k gf base (Nt.scanTo (Nt.rooms W F) p M Q (j + 1)).1 (Nt.scanTo (Nt.rooms W F) p M Q (j + 1)).2 (.slice a8 (Nt.scanTo (Nt.rooms W F) p M Q j).2.length c8) w6) := hide (by rw [HS.out]; exact HCM.out.below hb6)
                    clear hb6 HCM HRM c3 f3 HS
                    go_wp2_with fail
                    go_roundw
                    case rel => exact ⟨j + 1, by go_num, by omega, HC6⟩
                    case measure => simp only [intOf]; omega
                · have HS : Hid (Nt.scanTo (Nt.rooms W F) p M Q (j + 1) = Nt.scanTo (Nt.rooms W F) p M Q j) := hide (by rw [HST.out, if_neg (fun h => hy h.1)])
                  have hb1 : ((Nt.scanTo (Nt.rooms W F) p M Q j).1.getD j 0 == (-2 : Int)) = false := by rw [beq_eq_false_iff_ne]; exact hy
                  have HC6 : Hid (CM w k gf base (Nt.scanTo (Nt.rooms W F) p M Q (j + 1)).1 (Nt.scanTo (Nt.rooms W F) p M Q (j + 1)).2 (.slice a8 (Nt.scanTo (Nt.rooms W F) p M Q j).2.length c8) wr) := hide (by rw [HS.out]; exact HCM.out)
                  generalize (Nt.scanTo (Nt.rooms W F) p M Q j).1.getD j 0 = z at *
                  clear HST HCM hy HS
                  go_wp2_with fail
                  go_roundw
                  case rel => exact ⟨j + 1, by go_num, by omega, HC6⟩
                  case measure => simp only [intOf]; omega
              · have hje : j = k := by omega
                subst hje
                have hop := Nt.scan_open (R := Nt.rooms W F) (a := (p : Int)) (M := M) (Q := Q) (by omega) j (by rw [HML.out]; exact Nat.le_refl _)
                have hmq := HCM.out.msq
                have HCO : Hid (∃ f, CMo w (Nt.rooms W F) j gf base f (Nt.scanTo (Nt.rooms W F) p M Q j).1 (Nt.scanTo (Nt.rooms W F) p M Q j).2 (.slice a8 (Nt.scanTo (Nt.rooms W F) p M Q j).2.length c8) wr) := hide (by
                  have hfu := HFU.out
                  have hfe := HFE.out
                  obtain ⟨f, rfl⟩ : ∃ g, f = g + 1 := ⟨f - 1, by omega⟩
                  refine ⟨f, HCM.out, ?_, by omega, by omega, scan_mem2 HM.out j (Nat.le_refl _)⟩
                  have := HBF.out
                  rw [Nt.bfs] at this
                  exact this)
                have HMQ : Hid (msq j gf (.slice a8 (Nt.scanTo (Nt.rooms W F) p M Q j).2.length c8) wr < Nt.open2 M Q + 1) := hide (by rw [hmq, hop]; omega)
                clear hop hmq HCM
                go_wp2_with fail
                go_roundw
                case rel =>
                  obtain ⟨f, hco⟩ := HCO.out
                  exact ⟨f, _, _, hide hco⟩
                case measure => rw [HMS2.out]; exact HMQ.out
end Go.Proofs.Ytnepjahhconodaa
namespace Go.Proofs.Ytnepjahhconodaa
open Go.RowKit

/-- Nothing has turned but the blocks x and y; new blocks may be there. -/
structure Off2 (w w' : World) (x y : Nat) : Prop where
  os : w'.os = w.os
  tape : w'.tape = w.tape
  output : w'.output = w.output
  size : w.heap.size ≤ w'.heap.size
  block : ∀ b, b < w.heap.size → b ≠ x → b ≠ y → w'.heap[b]? = w.heap[b]?
theorem Off2.below {w w' : World} {x y k : Nat} (h : Off2 w w' x y) (hx : k ≤ x) (hy : k ≤ y) (hk : k ≤ w.heap.size) : Below k w w' :=
  ⟨h.os, h.tape, h.output, h.size, fun b hb => h.block b (by omega) (by omega) (by omega)⟩
theorem own_near {w : World} {base n g cap : Nat} {xs : List Value} (h : w.ownsRow base 3 1 (.slice (some ⟨g, 0, none⟩) n cap) n xs) : g < w.heap.size := by
  rcases h.2 with ⟨h0, _⟩ | ⟨g', cap', cur, hv, h2, h3, _⟩
  · cases h0
  · cases hv; exact (Array.getElem?_eq_some_iff.1 h3).1

end Go.Proofs.Ytnepjahhconodaa
namespace Go.Proofs.Ytnepjahhconodaa
open Go.RowKit

/-- The list that a value owns holds k, k + 1, .. -/
def HeldV (w : World) (v : Value) (n : Nat) (k : Int) : Prop :=
  (v = .slice none 0 0 ∧ n = 0) ∨ ∃ g cap, v = .slice (some ⟨g, 0, none⟩) n cap ∧ g < w.heap.size ∧ ∀ j : Nat, j < n → w.cell? ⟨g, j, none⟩ = some (.int .i64 (k + j))
theorem HeldV.keep {w w' : World} {v : Value} {n : Nat} {k : Int} (h : HeldV w v n k) (hs : w.heap.size ≤ w'.heap.size) (hb : ∀ g, v.ownBlock = some g → w'.heap[g]? = w.heap[g]?) : HeldV w' v n k := by
  rcases h with h | ⟨g, cap, rfl, hl, hc⟩
  · exact Or.inl h
  · exact Or.inr ⟨g, cap, rfl, Nat.lt_of_lt_of_le hl hs, fun j hj => (World.cell?_of_block (w := w) (a := ⟨g, j, none⟩) (hb g rfl)).trans (hc j hj)⟩
theorem HeldV.below {w w' : World} {v : Value} {n : Nat} {k : Int} (h : HeldV w v n k) (hb : Below w.heap.size w w') : HeldV w' v n k := by
  rcases h with h | ⟨g, cap, rfl, hl, hc⟩
  · exact Or.inl h
  · exact Or.inr ⟨g, cap, rfl, Nat.lt_of_lt_of_le hl hb.size, fun j hj => (hb.cell (p := ⟨g, j, none⟩) hl).trans (hc j hj)⟩
theorem own_keep {w w' : World} {base n : Nat} {v : Value} {xs : List Value} (h : w.ownsRow base 3 1 v n xs) (hb : ∀ g, v.ownBlock = some g → g < w.heap.size → w'.heap[g]? = w.heap[g]?) : w'.ownsRow base 3 1 v n xs := by
  rcases h with ⟨h0, h | ⟨g', cap, cur, rfl, h2, h3, h4⟩⟩
  · exact ⟨h0, Or.inl h⟩
  · exact ⟨h0, Or.inr ⟨g', cap, cur, rfl, h2, (hb g' rfl (Array.getElem?_eq_some_iff.1 h3).1).trans h3, h4⟩⟩
theorem own_below {w w' : World} {base n : Nat} {v : Value} {xs : List Value} (h : w.ownsRow base 3 1 v n xs) (hb : Below w.heap.size w w') : w'.ownsRow base 3 1 v n xs := own_keep h fun _ _ hl => hb.block _ hl
theorem own_row {w : World} {base n : Nat} {v : Value} {xs : List Int} (hx : xs.length = n) (h : w.ownsRow base 3 1 v n (ints xs)) : ∃ a cap, v = .slice a n cap ∧ ARow w a xs := by
  rcases h.2 with ⟨rfl, hn⟩ | ⟨g, cap, cur, rfl, _⟩
  · subst hn; exact ⟨none, 0, rfl, Or.inl (List.length_eq_zero_iff.1 hx)⟩
  · exact ⟨_, _, rfl, arow_owns hx.symm h⟩
theorem grown_under {w w' : World} {base n k : Nat} {v : Value} {xs : List Value} (hg : w.grownBy w' v.ownBlock) (h : w.ownsRow base 3 1 v n xs) (hk : k ≤ base) (hs : k ≤ w.heap.size) : Below k w w' :=
  ⟨hg.os, hg.tape, hg.output, hg.size, fun b hb => hg.block b (by omega) (fun he => by have := h.lt b he.symm; omega)⟩

end Go.Proofs.Ytnepjahhconodaa
namespace Go.Proofs.Ytnepjahhconodaa
open Go.RowKit

/-- One number ahead of a list. -/
theorem ahead {W : World} {base m : Nat} {v : Value} {out : List Int} {x : Int} (own : W.ownsRow base 3 1 v m (ints out)) (hm : out.length = m) (h9 : m ≤ 1000) (hb : base ≤ W.heap.size) :
    ∃ v' w', (∀ ty, (Builtin.append_ #[25, 25] ty #[.slice (some ⟨W.heap.size, 0, none⟩) 1 1, v]).run Try.prog (W.alloc (.cells #[.int .i64 x] 3)) = .ok v' w') ∧ w'.ownsRow base 3 1 v' (m + 1) (ints (x :: out)) ∧ Below base W w' := by
  obtain ⟨i0, hi, hz0, hz1, hz2⟩ := infoI
  obtain ⟨a, c, rfl, ra⟩ := own_row hm own
  have o1 := World.ownsRow_lit (base := base) (e := 3) (size := 1) W #[.int .i64 x] 1 hb (by unfold maxLen; omega) rfl
  obtain ⟨v', w', h1, h2, h3⟩ := run_append_v (P := Try.prog) (W.alloc (.cells #[.int .i64 x] 3)) base 25 0 3 i0 _ 8 Try.underlying25 hi hz0 hz1 hz2 rfl _ 1 _ o1 a m c (ints out) (by rw [ints_len, hm]) (ra.below (below_new _ _)).vrow (c_ints out) (by unfold maxLen; omega) (by omega) (Nat.le_trans hb (by simp))
  refine ⟨v', w', fun _ => h1, ?_, ((below_new W _).mono hb).trans (grown_under' h3 o1 (Nat.le_refl _) (Nat.le_trans hb (by simp)))⟩
  rw [Nat.add_comm m 1]
  exact h2
/-- Where the way back stands. -/
def Wm (R : List (List Int)) (n : Nat) (M H out : List Int) (s6 : Value) : Prop :=
  (∃ (p j f : Nat), s6 = .int .i64 (p : Int) ∧ p < n ∧ H.getD j 0 = (p : Int) ∧ Wb R n M H j f out) ∨ (s6 = .int .i64 (-1) ∧ out = Nt.wayM M n ∧ out.length ≤ n)
theorem Wm.step {R : List (List Int)} {n : Nat} {M H out : List Int} {p j f : Nat} (hp : H.getD j 0 = (p : Int)) (h : Wb R n M H j f out) : ∃ x : Int, M.getD p 0 = x ∧ Wm R n M H ((p : Int) :: out) (.int .i64 x) := by
  by_cases h0 : j = 0
  · subst h0
    obtain ⟨z1, z2⟩ := h.zero
    have : p = 0 := by rw [z1] at hp; omega
    subst this
    refine ⟨-1, h.bi.m0, Or.inr ⟨rfl, z2.symm, ?_⟩⟩
    have := h.len
    simp only [List.length_cons]; omega
  · obtain ⟨p', q, l, g, e1, _, _, e2, e3, e4, e5⟩ := h.step h0
    have : p' = p := by rw [e1] at hp; omega
    subst this
    exact ⟨(q : Int), e2, Or.inl ⟨q, l, g, rfl, e3, e4, e5⟩⟩
set_option maxRecDepth 100000 in
set_option maxHeartbeats 4000000 in
theorem slw_any {aw af : Option Addr} {n c d : Nat} {W F : List (List Int)} {w : World} (HN : Hid (W.length = n)) (HF : Hid (Nt.NF W F)) (HW : Hid (CRow w aw W)) (HA : Hid (CRow w af F)) :
    Calls Try.prog 43 #[.slice aw n c, .slice af n d] w fun e w' => ∃ v, e = .returned v ∧ w'.ownsRow w.heap.size 3 1 v (Nt.wayOf W F).length (ints (Nt.wayOf W F)) ∧ Below w.heap.size w w' := by
  have h8 := Nt.rowsB_len (Nt.netB_rows HF.out.net)
  rw [HN.out] at h8
  obtain ⟨h2, h8⟩ := h8
  have k0 : (0 : Int) ≤ (n : Int) - 1 := by omega
  have k1 : (n : Int) - 1 < (n : Int) := by omega
  have kt : ((n : Int) - 1).toNat = n - 1 := by omega
  have hWY : Nt.wayOf W F = Nt.wayM (Nt.come (Nt.rooms W F) n) n := by rw [Nt.wayOf, HN.out]
  rw [hWY]
  have HCL : Hid ((Nt.come (Nt.rooms W F) n).length = n) := hide (by obtain ⟨H, hb⟩ := Nt.come_inv (Nt.rooms W F) (n := n) (by omega); exact hb.len)
  have HST := hide (Wb.start (R := Nt.rooms W F) (n := n) h2)
  obtain ⟨M, hM⟩ : ∃ M, M = Nt.come (Nt.rooms W F) n := ⟨_, rfl⟩
  have HM := hide hM
  rw [← hM] at HCL HST ⊢
  clear hM hWY
  go_enter Try.func43, Try.ntmps43
  go_wp2_with fail
  refine (slc_any HN HF HW HA).mono ?_
  rintro e w1 ⟨g, rfl, own, hb⟩
  rw [← HM.out] at own
  have HAT : Hid (∀ (V : World) (i : Nat), Below w1.heap.size w1 V → i < n → V.cell? ⟨g, i, none⟩ = some (.int .i64 (M.getD i 0))) := hide fun V i hV hi => by
    rw [(own_below2 own hV).cellAt i (by omega), ints_get _ i (by rw [HCL.out]; exact hi)]
  have HBE := hide hb
  have c0 := HAT.out w1 (n - 1) (Below.refl _ _) (by omega)
  have c0' := c0
  rw [← kt] at c0'
  clear own hb
  by_cases hno : M.getD (n - 1) 0 = -2
  · rw [hno] at c0
    rw [kt, hno] at c0'
    have c1 := c0
    rw [← kt] at c1
    have HE : Hid (w1.ownsRow w.heap.size 3 1 (.slice none 0 0) (Nt.wayM M n).length (ints (Nt.wayM M n))) := hide (by rw [Nt.way_no hno]; exact World.ownsRow_nil _ _ _ _)
    clear c0'
    go_wp2_with fail
    go_ret
    exact ⟨_, rfl, HE.out, HBE.out⟩
  · obtain ⟨HH, j0, hwb, ej⟩ := HST.out hno
    have HWM : Hid (Wm (Nt.rooms W F) n M HH [] (.int .i64 ((n : Int) - 1))) := hide (Or.inl ⟨n - 1, j0, n + 1, by rw [show ((n - 1 : Nat) : Int) = (n : Int) - 1 by omega], by omega, by rw [ej]; omega, hwb⟩)
    have hne : (M.getD (n - 1) 0 == (-2 : Int)) = false := by rw [beq_eq_false_iff_ne]; exact hno
    rw [kt] at c0'
    generalize M.getD (n - 1) 0 = z at c0 hne
    have c1 := c0
    rw [← kt] at c1
    clear hwb ej hno c0'
    go_wp2_with fail
    go_loopw [6, 7] (fun s6 s7 wr => ∃ (out : List Int), Hid (Wm (Nt.rooms W F) n M HH out s6) ∧ Hid (wr.ownsRow w1.heap.size 3 1 s7 out.length (ints out)) ∧ Hid (Below w1.heap.size w1 wr)) (fun _ s7 _ => lenL n s7)
    case atStart => exact ⟨[], HWM, hide (World.ownsRow_nil _ _ _ _), hide (Below.refl _ _)⟩
    case round =>
      clear HWM c0 c1 hne
      obtain ⟨out, HWM, HO, HB⟩ := hrel
      obtain ⟨a7, c7, e7⟩ := own_form2 HO.out
      subst e7
      rcases HWM.out with ⟨p, j, f, rfl, hpn, hp, hwb⟩ | ⟨rfl, hout, hlen⟩
      · have hl := hwb.len
        obtain ⟨x, hx, hwm⟩ := Wm.step hp hwb
        obtain ⟨m, hm⟩ : ∃ m, out.length = m := ⟨_, rfl⟩
        rw [hm] at hl
        rw [hm] at HO ⊢
        obtain ⟨v6, w6, p6, o6, b6⟩ := ahead (x := (p : Int)) HO.out hm (by omega) HB.out.size
        have HB6 := hide (HB.out.trans b6)
        have d0 := HAT.out w6 p HB6.out hpn
        rw [hx] at d0
        have HO6 : Hid (w6.ownsRow w1.heap.size 3 1 v6 ((p : Int) :: out).length (ints ((p : Int) :: out))) := hide (by rw [List.length_cons, hm]; exact o6)
        obtain ⟨a6, c6, e6⟩ := own_form2 o6
        have HWM2 := hide hwm
        have p0 : (0 : Int) ≤ (p : Int) := by omega
        have p1 : (p : Int) < (n : Int) := by omega
        have pn : ¬ (p : Int) < 0 := by omega
        subst e6
        have HMM := hide hm
        clear o6 b6 HO HB hwm hwb hx HWM hm
        go_wp2_with (first | (at_builtin; refine Lib.wpList_append_run _ rfl _ _ 25 25 rfl _ _ rfl rfl _ _ (p6 _) ?_))
        go_roundw
        case rel => exact ⟨(p : Int) :: out, HWM2, HO6, HB6⟩
        case measure => simp only [lenL]; omega
      · have HE : Hid (wr.ownsRow w.heap.size 3 1 (.slice a7 out.length c7) (Nt.wayM M n).length (ints (Nt.wayM M n))) := hide (by rw [← hout]; exact own_low2 HO.out HBE.out.size)
        have HBX := hide (HBE.out.trans (HB.out.mono HBE.out.size))
        generalize out.length = L at *
        clear hout HO HB HWM
        go_wp2_with fail
        go_ret
        exact ⟨_, rfl, HE.out, HBX.out⟩
end Go.Proofs.Ytnepjahhconodaa
namespace Go.Proofs.Ytnepjahhconodaa
namespace Nt
def nwL (W F : List (List Int)) : List Int := if nfB W F then wayOf W F else []
def nwB (W F : List (List Int)) : Bool := decide (0 < (nwL W F).length)
end Nt
open Go.RowKit
theorem nil_len {l : List Int} (h : l = []) : l.length = 0 := by rw [h]; rfl
set_option maxRecDepth 100000 in
set_option maxHeartbeats 2000000 in
theorem snw_w {aw af : Option Addr} {n m c d : Nat} {W F : List (List Int)} {w : World} (HN : Hid (W.length = n)) (hn : n ≤ 1048576) (HM : Hid (F.length = m)) (hm : m ≤ 1048576) (HW : Hid (CRow w aw W)) (HA : Hid (CRow w af F)) :
    Calls Try.prog 50 #[.slice aw n c, .slice af m d] w fun e w' => ∃ v, e = .returned (.tuple #[v, .bool (Nt.nwB W F), .bool (Nt.nfB W F)]) ∧ w'.ownsRow w.heap.size 3 1 v (Nt.nwL W F).length (ints (Nt.nwL W F)) ∧ Below w.heap.size w w' := by
  cases hg : Nt.netB W
  · have HG := hide hg
    have hf : Nt.nfB W F = false := by simp [Nt.nfB, hg]
    have e1 : Nt.nwL W F = [] := by simp [Nt.nwL, hf]
    have e2 : Nt.nwB W F = false := by simp [Nt.nwB, e1]
    rw [e1, e2, hf]
    clear hf e1 e2 hg
    go_enter Try.func50, Try.ntmps50
    go_wp2_with fail
    refine (sgn_eq HN hn HW HG).mono ?_
    rintro e w1 ⟨rfl, hw1⟩
    obtain rfl : w = w1 := hw1.symm
    go_wp2_with fail
    go_ret3
    exact ⟨_, rfl, World.ownsRow_nil _ _ _ _, Below.refl _ _⟩
  · have HG := hide hg
    have HSL := hide (slf_w (c := c) (d := d) HN HM hm (hide (Nt.netB_rows hg)) HW HA)
    rw [← Nt.flow_eq hg] at HSL
    cases hf : Nt.nfB W F
    · have e1 : Nt.nwL W F = [] := by simp [Nt.nwL, hf]
      have e2 : Nt.nwB W F = false := by simp [Nt.nwB, e1]
      rw [e1, e2]
      rw [hf] at HSL
      clear hf e1 e2 hg
      go_enter Try.func50, Try.ntmps50
      go_wp2_with fail
      refine (sgn_eq HN hn HW HG).mono ?_
      rintro e w1 ⟨rfl, hw1⟩
      obtain rfl : w = w1 := hw1.symm
      go_wp2_with fail
      refine HSL.out.mono ?_
      rintro e w2 ⟨rfl, hb2⟩
      go_wp2_with fail
      go_ret3
      exact ⟨_, rfl, World.ownsRow_nil _ _ _ _, hb2⟩
    · have HNF := hide (Nt.nfB_iff.1 hf)
      rw [hf] at HSL
      have hmn : m = n := by have := HNF.out.len; rw [HM.out, HN.out] at this; exact this
      subst hmn
      have e1 : Nt.nwL W F = Nt.wayOf W F := by simp [Nt.nwL, hf]
      have e2 : Nt.nwB W F = decide (0 < (Nt.wayOf W F).length) := by rw [Nt.nwB, e1]
      rw [e1, e2]
      clear hf e1 e2 hg
      by_cases hnil : Nt.wayOf W F = []
      · have hd : decide (0 < (Nt.wayOf W F).length) = false := by rw [hnil]; rfl
        rw [hd]
        have HNI := hide hnil
        clear hd hnil
        go_enter Try.func50, Try.ntmps50
        go_wp2_with fail
        refine (sgn_eq HN hn HW HG).mono ?_
        rintro e w1 ⟨rfl, hw1⟩
        obtain rfl : w = w1 := hw1.symm
        go_wp2_with fail
        refine HSL.out.mono ?_
        rintro e w2 ⟨rfl, hb2⟩
        have HB2 := hide hb2
        clear hb2
        go_wp2_with fail
        refine (slw_any HN HNF (hide (HW.out.below HB2.out)) (hide (HA.out.below HB2.out))).mono ?_
        rintro e w3 ⟨v3, rfl, own3, hb3⟩
        have HO3 := hide (own_low2 own3 HB2.out.size)
        have HB3 := hide (HB2.out.trans (hb3.mono HB2.out.size))
        obtain ⟨a3, c3, rfl⟩ := own_form2 own3
        rw [nil_len HNI.out]
        have HO4 : Hid (w3.ownsRow w.heap.size 3 1 (.slice a3 0 c3) (Nt.wayOf W F).length (ints (Nt.wayOf W F))) := hide (by have := HO3.out; rw [nil_len HNI.out] at this; rw [nil_len HNI.out]; exact this)
        clear own3 hb3 HB2 HO3
        go_wp2_with fail
        go_ret3
        exact ⟨_, rfl, HO4.out, HB3.out⟩
      · have hpos : 0 < (Nt.wayOf W F).length := List.length_pos_iff.2 hnil
        have hd : decide (0 < (Nt.wayOf W F).length) = true := decide_eq_true hpos
        rw [hd]
        obtain ⟨L, hL⟩ : ∃ L, (Nt.wayOf W F).length = L := ⟨_, rfl⟩
        rw [hL] at hpos ⊢
        have HL := hide hL
        have hL0 : (0 : Int) < (L : Int) := by omega
        clear hd hnil hL
        go_enter Try.func50, Try.ntmps50
        go_wp2_with fail
        refine (sgn_eq HN hn HW HG).mono ?_
        rintro e w1 ⟨rfl, hw1⟩
        obtain rfl : w = w1 := hw1.symm
        go_wp2_with fail
        refine HSL.out.mono ?_
        rintro e w2 ⟨rfl, hb2⟩
        have HB2 := hide hb2
        clear hb2
        go_wp2_with fail
        refine (slw_any HN HNF (hide (HW.out.below HB2.out)) (hide (HA.out.below HB2.out))).mono ?_
        rintro e w3 ⟨v3, rfl, own3, hb3⟩
        rw [HL.out] at own3
        have HO3 := hide (own_low2 own3 HB2.out.size)
        have HB3 := hide (HB2.out.trans (hb3.mono HB2.out.size))
        obtain ⟨a3, c3, rfl⟩ := own_form2 own3
        clear own3 hb3 HB2
        go_wp2_with fail
        go_ret3
        exact ⟨_, rfl, HO3.out, HB3.out⟩
end Go.Proofs.Ytnepjahhconodaa
namespace Go.Proofs.Ytnepjahhconodaa
open Go.RowKit

end Go.Proofs.Ytnepjahhconodaa
namespace Go.Proofs.Ytnepjahhconodaa
open Go.RowKit

theorem arow_behind {w : World} {b o : Nat} {xs : List Int} (h : ARow w (some ⟨b, o, none⟩) xs) {i : Nat} (hi : i + 1 < xs.length) : w.cell? ⟨b, o + 1 + i, none⟩ = some (.int .i64 (xs.getD (i + 1) 0)) := by
  obtain ⟨b', o', e, r⟩ := h.at (i := i + 1) hi
  cases e
  rw [show o + 1 + i = o + (i + 1) by omega]; exact r
/-- What a push asks of its flow and its way. -/
structure Pok (n m : Nat) (F : List (List Int)) (y : Int) (P : List Int) : Prop where
  len : F.length = n
  n8 : n ≤ 8
  row : ∀ i, i < n → (F.getD i []).length = n
  pl : P.length = m
  m1 : 2 ≤ m
  m9 : m ≤ 1000
  lo : ∀ i, i < m → 0 ≤ P.getD i 0 ∧ P.getD i 0 < (n : Int)
  ne : ∀ i, i + 1 < m → P.getD i 0 ≠ P.getD (i + 1) 0
  y0 : 0 ≤ y
  y1 : y ≤ 100
  bd : ∀ k, k < m → ∀ i j, i < n → j < n → 0 ≤ Nt.at2 (Nt.pushTo y F P k) i j ∧ Nt.at2 (Nt.pushTo y F P k) i j ≤ 50
/-- One step of a push, in memory: the two stores. -/
structure St13 (W : World) (base G n cap p q : Nat) (y : Int) (us : List Value) (F : List (List Int)) (gb cb ga ca : Nat) (x1 x2 : Int) : Prop where
  c1 : W.cell? ⟨G, q, none⟩ = some (.slice (some ⟨gb, 0, none⟩) n cb)
  r1 : W.cell? ⟨gb, p, none⟩ = some (.int .i64 x1)
  f1 : W.frozen? ⟨gb, p, none⟩ = false
  c2 : (W.setCell ⟨gb, p, none⟩ (.int .i64 (x1 - min y x1))).cell? ⟨G, p, none⟩ = some (.slice (some ⟨ga, 0, none⟩) n ca)
  r2 : (W.setCell ⟨gb, p, none⟩ (.int .i64 (x1 - min y x1))).cell? ⟨ga, q, none⟩ = some (.int .i64 x2)
  f2 : (W.setCell ⟨gb, p, none⟩ (.int .i64 (x1 - min y x1))).frozen? ⟨ga, q, none⟩ = false
  ll : LL ((W.setCell ⟨gb, p, none⟩ (.int .i64 (x1 - min y x1))).setCell ⟨ga, q, none⟩ (.int .i64 (x2 + (y - min y x1)))) base 25 3 1 ints (.slice (some ⟨G, 0, none⟩) n cap) us (Nt.stL F y p q)
  b1 : base ≤ gb
  b2 : base ≤ ga
  u1 : us.getD q nilS = .slice (some ⟨gb, 0, none⟩) n cb
  u2 : us.getD p nilS = .slice (some ⟨ga, 0, none⟩) n ca
theorem LL.step13 {W : World} {base G n cap p q : Nat} {y : Int} {us : List Value} {F : List (List Int)} (h : LL W base 25 3 1 ints (.slice (some ⟨G, 0, none⟩) n cap) us F) (hn : F.length = n) (hr : ∀ i, i < n → (F.getD i []).length = n) (hp : p < n) (hq : q < n) (hne : p ≠ q) :
    ∃ gb cb ga ca, St13 W base G n cap p q y us F gb cb ga ca (Nt.at2 F q p) (Nt.at2 F p q) := by
  obtain ⟨gb, cb, e1, r1, f1, b1, _, L1⟩ := h.write (i := q) (k := p) (x := Nt.at2 F q p - min y (Nt.at2 F q p)) (by omega) (by rw [hr q hq]; exact hp)
  have L1' : LL (W.setCell ⟨gb, p, none⟩ (.int .i64 (Nt.at2 F q p - min y (Nt.at2 F q p)))) base 25 3 1 ints (.slice (some ⟨G, 0, none⟩) n cap) us (Nt.setM F q p (Nt.at2 F q p - min y (Nt.at2 F q p))) := L1
  have hl1 : (Nt.setM F q p (Nt.at2 F q p - min y (Nt.at2 F q p))).length = n := by rw [Nt.setM_len, hn]
  have hx2 : Nt.at2 (Nt.setM F q p (Nt.at2 F q p - min y (Nt.at2 F q p))) p q = Nt.at2 F p q := by
    rw [Nt.setM_at (by omega) (by rw [hr q hq]; exact hp), if_neg (fun e => hne e.1)]
  obtain ⟨ga, ca, e2, r2, f2, b2, _, L2⟩ := L1'.write (i := p) (k := q) (x := Nt.at2 F p q + (y - min y (Nt.at2 F q p))) (by omega) (by rw [Nt.setM_row, hr p hp]; exact hq)
  rw [hr q hq] at e1
  rw [Nt.setM_row, hr p hp] at e2
  have h' := h
  rw [← hn] at h'
  have c1 := h'.cell (i := q) (by omega)
  rw [e1] at c1
  have L1c := L1'
  rw [← hl1] at L1c
  have c2 := L1c.cell (i := p) (by omega)
  rw [e2] at c2
  refine ⟨gb, cb, ga, ca, c1, r1, f1, c2, ?_, f2, ?_, b1, b2, e1, e2⟩
  · rw [r2]; exact congrArg (fun z => some (Value.int .i64 z)) hx2
  · have := L2
    rw [Nt.stL, hx2]
    exact this
theorem pok_of {W F : List (List Int)} {P : List Int} {n m : Nat} (hf : Nt.NF W F) (hw : Nt.Way (Nt.rooms W F) W.length P) (hn : W.length = n) (hm : P.length = m) : Pok n m F (Nt.byI W F P) P := by
  subst hn hm
  obtain ⟨b1, b2, b3⟩ := Nt.by_facts hf hw
  have hW := Nt.rowsB_len (Nt.netB_rows hf.net)
  have hfew := hw.few
  refine ⟨hf.len, hW.2, fun i hi => by rw [Nt.rowsB_row hf.rows (by rw [hf.len]; exact hi), hf.len], rfl, hw.len, by omega, hw.lo, fun i hi => hw.ne i (i + 1) (by omega) hi (by omega), by omega, b2, fun k hk i j hi hj => ?_⟩
  have hp := Nt.push_to hf hw (by omega) b3 k hk
  have h1 := hp.cap.lo i j hi hj
  have h2 := hp.cap.hi i j hi hj
  have h3 := Nt.rowsB_bd (Nt.netB_rows hf.net) hi hj
  omega
/-- A number of a list of lists, read out of memory. -/
def rd2 (w : World) (v : Value) (i k : Nat) : Int := match v with
  | .slice (some a) _ _ => (match w.cell? ⟨a.block, i, none⟩ with
    | some (.slice (some b) _ _) => (match w.cell? ⟨b.block, k, none⟩ with
      | some (.int _ x) => x
      | _ => 0)
    | _ => 0)
  | _ => 0
theorem LL.rd2 {W : World} {base T n c G i k : Nat} {us : List Value} {R : List (List Int)} (h : LL W base T 3 1 ints (.slice (some ⟨G, 0, none⟩) n c) us R) (hn : R.length = n) (hi : i < n) (hk : k < (R.getD i []).length) : rd2 W (.slice (some ⟨G, 0, none⟩) n c) i k = Nt.at2 R i k := by
  obtain ⟨g, d, c1, _, c2⟩ := h.at2 hn hi hk
  unfold Proofs.Ytnepjahhconodaa.rd2
  simp only [c1, c2]
  rfl
def msf (n : Nat) (v : Value) (w : World) : Nat := (401 - Bx.sumTo (fun k => rd2 w v 0 k - rd2 w v k 0) n).toNat
theorem LL.msf {W : World} {base T n c G : Nat} {us : List Value} {F : List (List Int)} (h : LL W base T 3 1 ints (.slice (some ⟨G, 0, none⟩) n c) us F) (hn : F.length = n) (hr : Nt.rowsB F = true) : msf n (.slice (some ⟨G, 0, none⟩) n c) W = (401 - Nt.outI F 0).toNat := by
  have hl := Nt.rowsB_len hr
  unfold Proofs.Ytnepjahhconodaa.msf
  rw [Nt.outI, Fl.ex, hn]
  congr 2
  refine Bx.sum_eq n fun k hk => ?_
  rw [h.rd2 hn (by omega) (by rw [Nt.rowsB_row hr (by omega)]; omega), h.rd2 hn hk (by rw [Nt.rowsB_row hr (by omega)]; omega)]
end Go.Proofs.Ytnepjahhconodaa
namespace Go.Proofs.Ytnepjahhconodaa
open Go.RowKit

theorem makeC2_run (n : Nat) (hn : n ≤ 1048576) (w : World) : (Instr.makeSlice 23 (.int .i64 (n : Int)) (.int .i64 (n : Int))).run Try.prog w = .ok (.slice (some ⟨w.heap.size, 0, none⟩) n n) (w.alloc (.cells (madeCells #[.slice none 0 0] n) 25)) := by
  have h : (Try.prog.info? 25).map (fun i => (i.zero, i.size, i.bytes)) = some (some (.slice none 0 0), 1, 24) := by kernel_rfl
  obtain ⟨i, hi, hzz⟩ := Option.map_eq_some_iff.1 h
  simp only [Prod.mk.injEq] at hzz
  obtain ⟨hz, hs, hb⟩ := hzz
  have := run_make (P := Try.prog) w 23 25 i _ Try.underlying23 hi hz .i64 .i64 (n : Int) (n : Int) (by omega) (by omega) (by rw [hb]; omega) (by omega)
  simpa [hs, Value.cells] using this
theorem madeC2_own (w : World) (n : Nat) (hn : n ≤ 1048576) (gs : List Nat) (F : List (List Int)) : (w.alloc (.cells (madeCells #[.slice none 0 0] n) 25)).ownsRow w.heap.size 25 1 (.slice (some ⟨w.heap.size, 0, none⟩) n n) n (cvals gs F 0 n) := by
  have h := World.ownsRow_lit (base := w.heap.size) (e := 25) (size := 1) w (madeCells #[.slice none 0 0] n) n (Nat.le_refl _) (by unfold maxLen; omega) (by simp [madeCells])
  rw [toList_madeCells_one] at h
  have e : cvals gs F 0 n = List.replicate n (.slice none 0 0) := by
    apply List.ext_getElem <;> simp [cvals]
  rw [e]
  simpa using h
end Go.Proofs.Ytnepjahhconodaa
namespace Go.Proofs.Ytnepjahhconodaa
open Go.RowKit

set_option maxRecDepth 100000 in
set_option maxHeartbeats 4000000 in
theorem ra13 {a : Option Addr} {b o n c m d : Nat} {R : List (List Int)} {P : List Int} {w : World} (HN : Hid (R.length = n)) (HRW : Hid (∀ i, i < n → (R.getD i []).length = n)) (H : Hid (CRow w a R)) (HM : Hid (P.length = m)) (h1 : 2 ≤ m) (hm : m ≤ 1000) (hd : m ≤ d) (HP : Hid (ARow w (some ⟨b, o, none⟩) P)) (HLO : Hid (∀ i, i < m → 0 ≤ P.getD i 0 ∧ P.getD i 0 < (n : Int))) :
    Calls Try.prog 41 #[.slice a n c, .slice (some ⟨b, o, none⟩) m d] w fun e w' => ∃ v, e = .returned v ∧ w'.ownsRow w.heap.size 3 1 v (m - 1) (ints (Nt.along R P)) ∧ Below w.heap.size w w' := by
  have m1 : (1 : Int) ≤ (m : Int) := by omega
  have md : (m : Int) ≤ (d : Int) := by omega
  have hd1 : ¬ d = 1 := by omega
  go_enter Try.func41, Try.ntmps41
  go_wp2_with fail
  go_loopw [5, 6, 7, 11] (fun s5 _ _ sk wr => ∃ (k : Nat), sk = .int .i64 k ∧ k ≤ m - 1 ∧ Hid (wr.ownsRow w.heap.size 3 1 s5 k (ints ((Nt.along R P).take k))) ∧ Hid (Below w.heap.size w wr)) (fun _ _ _ sk _ => m - 1 - (intOf sk).toNat)
  case atStart => exact ⟨0, rfl, Nat.zero_le _, hide (World.ownsRow_nil _ _ _ _), hide (Below.refl _ _)⟩
  case round =>
    obtain ⟨k, rfl, hk, HO, HB⟩ := hrel
    obtain ⟨a5, c5, e5⟩ := own_form2 HO.out
    subst e5
    by_cases hlt : k < m - 1
    · have l1 := HLO.out k (by omega)
      have l2 := HLO.out (k + 1) (by omega)
      have r1 := arow_behind (HP.out.below HB.out) (i := k) (by rw [HM.out]; omega)
      obtain ⟨b0, o0, e0, r2⟩ := (HP.out.below HB.out).at (i := k) (by rw [HM.out]; omega)
      cases e0
      have HS := hide (Nt.along_snoc R P (k := k) (by rw [HM.out]; omega))
      obtain ⟨p, ep⟩ : ∃ p : Nat, P.getD k 0 = (p : Int) := ⟨(P.getD k 0).toNat, by omega⟩
      obtain ⟨q, eq⟩ : ∃ q : Nat, P.getD (k + 1) 0 = (q : Int) := ⟨(P.getD (k + 1) 0).toNat, by omega⟩
      rw [ep] at r2 l1 HS
      rw [eq] at r1 l2 HS
      rw [Int.toNat_natCast, Int.toNat_natCast] at HS
      obtain ⟨b1, o1, ai, ci, rfl, hb, r3, R3⟩ := (H.out.below HB.out).at (i := p) (by rw [HN.out]; omega)
      rw [HRW.out p (by omega)] at r3
      obtain ⟨b2, o2, rfl, r4⟩ := R3.at (i := q) (by rw [HRW.out p (by omega)]; omega)
      have r5 : wr.cell? ⟨b2, o2 + q, none⟩ = some (.int .i64 (Nt.at2 R p q)) := r4
      have p0 : (0 : Int) ≤ (p : Int) := by omega
      have p1 : (p : Int) < (n : Int) := by omega
      have q0 : (0 : Int) ≤ (q : Int) := by omega
      have q1 : (q : Int) < (n : Int) := by omega
      have k0 : (0 : Int) ≤ (k : Int) := by omega
      have k1 : (k : Int) < (m : Int) - 1 := by omega
      have k2 : (k : Int) < (m : Int) := by omega
      have k3 : (k : Int) < ((m - 1 : Nat) : Int) := by omega
      generalize Nt.at2 R p q = x at *
      obtain ⟨v6, w6, p6, o6, g6⟩ := push_int (x := x) HO.out (by omega) HB.out.size
      have HO6 : Hid (w6.ownsRow w.heap.size 3 1 v6 (k + 1) (ints ((Nt.along R P).take (k + 1)))) := hide (by rw [← HS.out, ints_snoc]; exact o6)
      have HB6 := hide (HB.out.trans (grown_under' g6 HO.out (Nat.le_refl _) HB.out.size))
      clear o6 g6 HO HB HS r4 R3 l1 l2
      go_wp2_with (first | (at_builtin; refine Lib.wpList_append_run _ rfl (.tmp 16) (.tmp 27) 25 25 rfl _ _ rfl rfl _ _ (p6 _) ?_))
      go_roundw
      case rel => exact ⟨k + 1, by go_num, by omega, HO6, HB6⟩
      case measure => simp only [intOf]; omega
    · have hke : k = m - 1 := by omega
      have k3 : ¬ (k : Int) < ((m - 1 : Nat) : Int) := by omega
      have k4 : ¬ (k : Int) < (m : Int) - 1 := by omega
      have HE : Hid ((Nt.along R P).take k = Nt.along R P) := hide (List.take_of_length_le (by rw [Nt.along_len, HM.out]; omega))
      rw [HE.out] at HO
      subst hke
      go_wp2_with fail
      go_ret
      exact ⟨_, rfl, HO.out, HB.out⟩
theorem lst_one (r : List Int) : Nt.lstTo r 1 = r.getD 0 0 := by show min (r.getD 0 0) (r.getD 0 0) = _; omega
set_option maxRecDepth 100000 in
set_option maxHeartbeats 1000000 in
theorem min13 {a : Option Addr} {n c : Nat} {r : List Int} {w : World} (hn : r.length = n) (h1 : 1 ≤ n) (h10 : n ≤ 1000) (ha : ARow w a r) :
    Calls Try.prog 40 #[.slice a n c] w fun e w' => e = .returned (.int .i64 (Nt.lst r)) ∧ w' = w := by
  obtain ⟨b0, o0, rfl, r0⟩ := ha.at (i := 0) (by omega)
  have HA := hide ha
  have HN := hide hn
  have HS : Hid (∀ k, min (Nt.lstTo r k) (r.getD k 0) = Nt.lstTo r (k + 1)) := hide fun k => rfl
  have H1 := hide (lst_one r)
  have HE : Hid (Nt.lstTo r n = Nt.lst r) := hide (by rw [Nt.lst, hn])
  have i0 : ¬ (n : Int) < 1 := by omega
  have i1 : (0 : Int) < (n : Int) := by omega
  rw [← H1.out, Nat.add_zero] at r0
  clear ha hn
  go_enter Try.func40, Try.ntmps40
  go_wp2_with fail
  go_loop [3, 4] (fun s3 s => ∃ (k : Nat) (x : Int), s = .int .i64 k ∧ s3 = .int .i64 x ∧ 1 ≤ k ∧ k ≤ n ∧ Hid (x = Nt.lstTo r k)) (fun _ s => n - (intOf s).toNat)
  case atStart => exact ⟨1, _, rfl, rfl, Nat.le_refl _, h1, hide rfl⟩
  case round =>
    obtain ⟨k, x, rfl, rfl, k1, hk, HX⟩ := hrel
    by_cases hlt : k < n
    · obtain ⟨b, off, e0, r1⟩ := HA.out.at (i := k) (by rw [HN.out]; exact hlt)
      cases e0
      have j0 : (0 : Int) ≤ (k : Int) := by omega
      have j1 : (k : Int) < (n : Int) := by omega
      have HX1 : Hid (min x (r.getD k 0) = Nt.lstTo r (k + 1)) := hide (by rw [HX.out]; exact HS.out k)
      generalize r.getD k 0 = y at *
      go_wp2_with fail
      go_round
      case rel => exact ⟨k + 1, min x y, by go_num, by go_num, by omega, by omega, HX1⟩
      case measure => simp only [intOf]; omega
    · have hke : k = n := by omega
      subst hke
      go_wp2_with fail
      go_ret
      exact ⟨ret_int (HX.out.trans HE.out), rfl⟩
theorem clone13 {b o n c : Nat} {xs : List Int} {w : World} (hx : xs.length = n) (hn : n ≤ 1000) (ha : ∀ i, i < xs.length → w.cell? ⟨b, o + i, none⟩ = some (.int .i64 (xs.getD i 0))) :
    Calls Try.prog 58 #[.slice (some ⟨b, o, none⟩) n c] w fun e w' => ∃ v, e = .returned v ∧ Below w.heap.size w w' ∧ w'.ownsRow w.heap.size 3 1 v n (ints xs) := by
  refine (Try.slices_Clone_int b o n c xs w (by rw [hx]; exact Nat.le_refl _) (by omega) ha).mono ?_
  rintro e w3 ⟨v, rfl, own3, _, hb3⟩
  rw [show (xs.take n).map (Value.int .i64) = ints xs by rw [← hx, List.take_length]; rfl] at own3
  exact ⟨v, rfl, hb3, own3⟩
/-- The first k rows, the others empty. -/
def halfL (F : List (List Int)) (n k : Nat) : List (List Int) := F.take k ++ List.replicate (n - k) []
theorem half_len {F : List (List Int)} {n k : Nat} (hn : F.length = n) (hk : k ≤ n) : (halfL F n k).length = n := by simp [halfL, hn]; omega
theorem half_set {F : List (List Int)} {n k : Nat} (hn : F.length = n) (hk : k < n) : (halfL F n k).set k (F.getD k []) = halfL F n (k + 1) := by
  unfold halfL
  obtain ⟨m, hm⟩ : ∃ m, n - k = m + 1 := ⟨n - k - 1, by omega⟩
  have hl : (F.take k).length = k := by simp; omega
  rw [hm, List.replicate_succ, List.set_append_right _ _ (by omega), hl, Nat.sub_self, List.set_cons_zero, List.take_succ_eq_append_getElem (by omega), show n - (k + 1) = m by omega, Pf.getD_lt _ _ (show k < F.length by omega), List.append_assoc]
  rfl
theorem half_all {F : List (List Int)} {n : Nat} (hn : F.length = n) : halfL F n n = F := by simp [halfL, ← hn]
theorem LL.made (w : World) (n : Nat) (hn : n ≤ 1048576) (T : Nat) : LL (w.alloc (.cells (madeCells #[.slice none 0 0] n) T)) w.heap.size T 3 1 ints (.slice (some ⟨w.heap.size, 0, none⟩) n n) (List.replicate n nilS) (List.replicate n []) := by
  have h := World.ownsRow_lit (base := w.heap.size) (e := T) (size := 1) w (madeCells #[.slice none 0 0] n) n (Nat.le_refl _) (by unfold maxLen; omega) (by simp [madeCells])
  rw [toList_madeCells_one] at h
  have hu : ∀ i, (List.replicate n nilS).getD i nilS = nilS := fun i => by by_cases hi : i < n <;> simp [hi]
  have hr : ∀ i, (List.replicate n ([] : List Int)).getD i [] = [] := fun i => by by_cases hi : i < n <;> simp [hi]
  refine ⟨by rw [List.length_replicate]; exact h, fun i _ => by rw [hu, hr]; exact World.ownsRow_nil _ _ _ _, fun i g _ he => by rw [hu] at he; simp [nilS, Value.ownBlock] at he, fun i j g _ _ _ he => by rw [hu] at he; simp [nilS, Value.ownBlock] at he⟩
set_option maxRecDepth 100000 in
set_option maxHeartbeats 8000000 in
theorem pu_any {af : Option Addr} {b o n c m d : Nat} {F : List (List Int)} {P : List Int} {y : Int} {w : World} (HK : Hid (Pok n m F y P)) (hd : m ≤ d) (H : Hid (CRow w af F)) (HP : Hid (ARow w (some ⟨b, o, none⟩) P)) :
    Calls Try.prog 39 #[.slice af n c, .slice (some ⟨b, o, none⟩) m d, .int .i64 y] w fun e w' => ∃ v us, e = .returned v ∧ LL w' w.heap.size 25 3 1 ints v us (Nt.pushL y F P) ∧ Below w.heap.size w w' := by
  have h8 := HK.out.n8
  have hm1 := HK.out.m1
  have hm9 := HK.out.m9
  have HN := hide HK.out.len
  have HRW := hide HK.out.row
  have m1 : (1 : Int) ≤ (m : Int) := by omega
  have md : (m : Int) ≤ (d : Int) := by omega
  have hd1 : ¬ d = 1 := by omega
  have hmk := makeC2_run n (by omega)
  go_enter Try.func39, Try.ntmps39
  go_wp2_with fail
  go_loopw [8, 9, 19] (fun _ _ sk wr => ∃ (k : Nat) (us : List Value), sk = .int .i64 k ∧ k ≤ n ∧ Hid (LL wr w.heap.size 25 3 1 ints (.slice (some ⟨w.heap.size, 0, none⟩) n n) us (halfL F n k)) ∧ Hid (Below w.heap.size w wr)) (fun _ _ sk _ => n - (intOf sk).toNat)
  case atStart => exact ⟨0, List.replicate n nilS, rfl, Nat.zero_le _, hide (LL.made w n (by omega) _), hide (below_new _ _)⟩
  case round =>
    obtain ⟨k, us, rfl, hk, HL, HB⟩ := hrel
    by_cases hlt : k < n
    · obtain ⟨b1, o1, ai, ci, rfl, hb, q1, Q1⟩ := (H.out.below HB.out).at (i := k) (by rw [HN.out]; exact hlt)
      rw [HRW.out k hlt] at q1
      obtain ⟨b2, o2, rfl, q2⟩ : ∃ b2 o2, ai = some ⟨b2, o2, none⟩ ∧ ∀ i, i < (F.getD k []).length → wr.cell? ⟨b2, o2 + i, none⟩ = some (.int .i64 ((F.getD k []).getD i 0)) := by
        rcases Q1 with h | ⟨b2, o2, e, _, hc⟩
        · have := HRW.out k hlt; rw [h] at this; simp at this; omega
        · exact ⟨b2, o2, e, hc⟩
      have HQ2 := hide q2
      have k0 : (0 : Int) ≤ (k : Int) := by omega
      have k1 : (k : Int) < (n : Int) := by omega
      clear Q1 q2 hmk
      go_wp2_with fail
      refine (clone13 (HRW.out k hlt) (by omega) HQ2.out).mono ?_
      rintro e w2 ⟨v2, rfl, hb2, own2⟩
      have hhl := half_len HN.out (show k ≤ n by omega)
      have L0 : LL wr w.heap.size 25 3 1 ints (.slice (some ⟨w.heap.size, 0, none⟩) (halfL F n k).length n) us (halfL F n k) := by rw [hhl]; exact HL.out
      have hG : w.heap.size < wr.heap.size := (HL.out.1.lt _ rfl).2
      have L2 := L0.put (i := k) (u' := v2) (r' := F.getD k []) (W' := w2) (by omega) (fun b hb _ => hb2.block b hb) hb2.size (by rw [HRW.out k hlt]; exact own_low2 own2 HB.out.size) (fun g e => Or.inr (own2.lt g e).1)
      rw [half_set HN.out hlt, hhl] at L2
      have c0 : w2.cell? ⟨w.heap.size, k, none⟩ = some (us.getD k nilS) := (hb2.cell (p := ⟨w.heap.size, k, none⟩) hG).trans (L0.cell (by omega))
      have f0 : w2.frozen? ⟨w.heap.size, k, none⟩ = false := (hb2.frozen (p := ⟨w.heap.size, k, none⟩) hG).trans (L0.1.frozenAt k)
      have HL2 := hide L2
      have HB2 := hide ((HB.out.trans (hb2.mono HB.out.size)).setCell (p := ⟨w.heap.size, k, none⟩) (Nat.le_refl _) v2)
      obtain ⟨a2, c2, rfl⟩ := own_form2 own2
      clear own2 hb2 L0 L2 hhl HL
      go_wp2_with fail
      go_roundw
      case rel => exact ⟨k + 1, _, by go_num, by omega, HL2, HB2⟩
      case measure => simp only [intOf]; omega
    · have hke : k = n := by omega
      subst hke
      rw [half_all HN.out] at HL
      obtain ⟨G, hG⟩ : ∃ G, G = w.heap.size := ⟨_, rfl⟩
      have HG := hide hG
      have HL0 : Hid (LL wr w.heap.size 25 3 1 ints (.slice (some ⟨G, 0, none⟩) k k) us F) := hide (by rw [hG]; exact HL.out)
      rw [← hG]
      clear hmk HL hG
      go_wp2_with fail
      go_loopw [10, 11, 12, 13, 33] (fun _ _ _ _ sk wq => ∃ (j : Nat), sk = .int .i64 j ∧ j ≤ m - 1 ∧ Hid (LL wq w.heap.size 25 3 1 ints (.slice (some ⟨G, 0, none⟩) k k) us (Nt.pushTo y F P j)) ∧ Hid (Below w.heap.size w wq)) (fun _ _ _ _ sk _ => m - 1 - (intOf sk).toNat)
      case atStart => exact ⟨0, rfl, Nat.zero_le _, HL0, HB⟩
      case round =>
        clear HL0 HB
        obtain ⟨j, rfl, hj, HL, HB⟩ := hrel
        by_cases hjm : j < m - 1
        · have l1 := HK.out.lo j (by omega)
          have l2 := HK.out.lo (j + 1) (by omega)
          have ne := HK.out.ne j (by omega)
          have r1 := arow_behind (HP.out.below HB.out) (i := j) (by rw [HK.out.pl]; omega)
          obtain ⟨b0, o0, e0, r2⟩ := (HP.out.below HB.out).at (i := j) (by rw [HK.out.pl]; omega)
          cases e0
          obtain ⟨p, ep⟩ : ∃ p : Nat, P.getD j 0 = (p : Int) := ⟨(P.getD j 0).toNat, by omega⟩
          obtain ⟨q, eq⟩ : ∃ q : Nat, P.getD (j + 1) 0 = (q : Int) := ⟨(P.getD (j + 1) 0).toNat, by omega⟩
          rw [ep] at r2 l1 ne
          rw [eq] at r1 l2 ne
          have HST : Hid (Nt.pushTo y F P (j + 1) = Nt.stL (Nt.pushTo y F P j) y p q) := hide (by rw [Nt.pushTo, ep, eq, Int.toNat_natCast, Int.toNat_natCast])
          have hbd1 := HK.out.bd j (by omega) q p (by omega) (by omega)
          have hbd2 := HK.out.bd j (by omega) p q (by omega) (by omega)
          obtain ⟨gb, cb, ga, ca, S⟩ := HL.out.step13 (y := y) (p := p) (q := q) (by rw [Nt.pushTo_len]; exact HN.out) (fun i hi => by rw [Nt.pushTo_row]; exact HRW.out i hi) (by omega) (by omega) (by omega)
          have hy0 := HK.out.y0
          have hy1 := HK.out.y1
          generalize Nt.at2 (Nt.pushTo y F P j) q p = x1 at *
          generalize Nt.at2 (Nt.pushTo y F P j) p q = x2 at *
          have HS := hide S
          obtain ⟨c1, s1, f1, c2, s2, f2, _, b1, b2, _, _⟩ := S
          have j0 : (0 : Int) ≤ (j : Int) := by omega
          have j1 : (j : Int) < ((m - 1 : Nat) : Int) := by omega
          have j2 : (j : Int) < (m : Int) := by omega
          have p0 : (0 : Int) ≤ (p : Int) := by omega
          have p1 : (p : Int) < (k : Int) := by omega
          have q0 : (0 : Int) ≤ (q : Int) := by omega
          have q1 : (q : Int) < (k : Int) := by omega
          have HB2 := hide ((HB.out.setCell (p := ⟨gb, p, none⟩) b1 (.int .i64 (x1 - min y x1))).setCell (p := ⟨ga, q, none⟩) b2 (.int .i64 (x2 + (y - min y x1))))
          have L2 := HS.out.ll
          rw [← HST.out] at L2
          have HL2 := hide L2
          have hmn : 0 ≤ min y x1 ∧ min y x1 ≤ 50 := by omega
          obtain ⟨t0, t1⟩ := hmn
          have w1 : wrap64 (x1 - min y x1) = x1 - min y x1 := wrap_id' _ (by omega) (by omega)
          have w2 : wrap64 (y - min y x1) = y - min y x1 := wrap_id' _ (by omega) (by omega)
          have w3 : wrap64 (x2 + (y - min y x1)) = x2 + (y - min y x1) := wrap_id' _ (by omega) (by omega)
          obtain ⟨x10, x11⟩ := hbd1
          obtain ⟨x20, x21⟩ := hbd2
          clear HS HST l1 l2 ne HL L2
          go_wp2_with fail
          go_roundw
          case rel => exact ⟨j + 1, by go_num, by omega, HL2, HB2⟩
          case measure => simp only [intOf]; omega
        · have hje : j = m - 1 := by omega
          subst hje
          have j3 : ¬ ((m - 1 : Nat) : Int) < ((m - 1 : Nat) : Int) := by omega
          have HL2 : Hid (LL wr w.heap.size 25 3 1 ints (.slice (some ⟨G, 0, none⟩) k k) us (Nt.pushL y F P)) := hide (by rw [Nt.pushL, HK.out.pl]; exact HL.out)
          go_wp2_with fail
          go_ret
          exact ⟨_, rfl, ⟨us, HL2.out⟩, HB.out⟩
end Go.Proofs.Ytnepjahhconodaa
namespace Go.Proofs.Ytnepjahhconodaa
namespace Nt
def okAt (n : Nat) (P : List Int) (i : Nat) : Bool := Pf.inB (P.getD i 0) 0 ((n : Int) - 1) && !(P.take i).contains (P.getD i 0)
def wayB (R : List (List Int)) (n : Nat) (P : List Int) : Bool := decide (0 < P.length) && ((P.getD 0 0 == 0) && ((P.getD (P.length - 1) 0 == (n : Int) - 1) && ((List.range P.length).all (okAt n P) && !(along R P).contains 0)))
theorem ok_lo {n : Nat} {P : List Int} {i : Nat} (h : okAt n P i = true) : 0 ≤ P.getD i 0 ∧ P.getD i 0 < (n : Int) := by
  simp only [okAt, Bool.and_eq_true] at h
  have := Pf.inB_yes h.1
  omega
theorem ok_ne {n : Nat} {P : List Int} {k : Nat} (hk : k ≤ P.length) (h : ∀ i, i < k → okAt n P i = true) : ∀ i j, i < k → j < k → i ≠ j → P.getD i 0 ≠ P.getD j 0 := by
  have key : ∀ i j, i < j → j < k → P.getD i 0 ≠ P.getD j 0 := fun i j hij hj e => by
    have h1 := h j hj
    simp only [okAt, Bool.and_eq_true, Bool.not_eq_true'] at h1
    have hm : P.getD i 0 ∈ P.take j := by
      rw [Pf.getD_lt _ _ (show i < P.length by omega)]
      exact List.mem_take_iff_getElem.2 ⟨i, by omega, rfl⟩
    rw [e] at hm
    have := List.contains_iff_mem.2 hm
    rw [h1.2] at this
    cases this
  intro i j hi hj hne
  rcases Nat.lt_or_gt_of_ne hne with hlt | hlt
  · exact key i j hlt hj
  · exact fun e => key j i hlt hi e.symm
theorem ok_few {n : Nat} {P : List Int} {k : Nat} (hk : k ≤ P.length) (h : ∀ i, i < k → okAt n P i = true) : k ≤ n := few (fun i hi => ok_lo (h i hi)) (ok_ne hk h)
theorem wayB_iff {R : List (List Int)} {n : Nat} {P : List Int} : wayB R n P = true ↔ 0 < P.length ∧ P.getD 0 0 = 0 ∧ P.getD (P.length - 1) 0 = (n : Int) - 1 ∧ (∀ i, i < P.length → okAt n P i = true) ∧ (along R P).contains 0 = false := by
  simp only [wayB, Bool.and_eq_true, decide_eq_true_eq, beq_iff_eq, List.all_eq_true, List.mem_range, Bool.not_eq_true']
theorem wayB_no {R : List (List Int)} {n : Nat} {P : List Int} (h : ¬ (0 < P.length ∧ P.getD 0 0 = 0 ∧ P.getD (P.length - 1) 0 = (n : Int) - 1 ∧ (∀ i, i < P.length → okAt n P i = true) ∧ (along R P).contains 0 = false)) : wayB R n P = false := by
  cases e : wayB R n P
  · rfl
  · exact absurd (wayB_iff.1 e) h
/-- Where no room is below 0 this is a way. -/
theorem way_of {R : List (List Int)} {n : Nat} {P : List Int} (hn : 2 ≤ n) (h : wayB R n P = true) (hr : ∀ i k, i < n → k < n → 0 ≤ at2 R i k) : Way R n P := by
  obtain ⟨h0, h1, h2, h3, h4⟩ := wayB_iff.1 h
  have lo := fun i hi => ok_lo (h3 i hi)
  have hl2 : 2 ≤ P.length := by
    by_cases e : P.length = 1
    · rw [e, h1] at h2; omega
    · omega
  refine ⟨hl2, h1, h2, lo, ok_ne (Nat.le_refl _) h3, fun i hi => ?_⟩
  have a1 := lo i (by omega)
  have a2 := lo (i + 1) hi
  have hp := hr (P.getD i 0).toNat (P.getD (i + 1) 0).toNat (by omega) (by omega)
  have hne : at2 R (P.getD i 0).toNat (P.getD (i + 1) 0).toNat ≠ 0 := fun e => by
    have hm : (0 : Int) ∈ along R P := by
      have := along_at R P hi
      rw [e] at this
      rw [← this, Pf.getD_lt _ _ (show i < (along R P).length by rw [along_len]; omega)]
      exact List.getElem_mem _
    have := List.contains_iff_mem.2 hm
    rw [h4] at this
    cases this
  omega
/-- A room of 0 on it: it is none. -/
theorem way_zero {R : List (List Int)} {n : Nat} {P : List Int} {i : Nat} (hi : i + 1 < P.length) (h : at2 R (P.getD i 0).toNat (P.getD (i + 1) 0).toNat = 0) : wayB R n P = false := by
  refine wayB_no fun ⟨_, _, _, _, h4⟩ => ?_
  have hm : (0 : Int) ∈ along R P := by
    have := along_at R P hi
    rw [h] at this
    rw [← this, Pf.getD_lt _ _ (show i < (along R P).length by rw [along_len]; omega)]
    exact List.getElem_mem _
  have := List.contains_iff_mem.2 hm
  rw [h4] at this
  cases this
end Nt
open Go.RowKit
end Go.Proofs.Ytnepjahhconodaa
namespace Go.Proofs.Ytnepjahhconodaa
namespace Nt
/-- The least of the first so many, at most 100. -/
def b100 (r : List Int) : Nat → Int
  | 0 => 100
  | k + 1 => if r.getD k 0 < b100 r k then r.getD k 0 else b100 r k
theorem b100_eq (r : List Int) : ∀ k, 1 ≤ k → (∀ i, i < k → r.getD i 0 ≤ 100) → b100 r k = lstTo r k
  | 0, h, _ => by omega
  | 1, _, h => by
    have := h 0 (by omega)
    show (if r.getD 0 0 < 100 then r.getD 0 0 else 100) = min (r.getD 0 0) (r.getD 0 0)
    split <;> omega
  | k + 2, _, h => by
    rw [b100, b100_eq r (k + 1) (by omega) fun i hi => h i (by omega)]
    show _ = min (lstTo r (k + 1)) (r.getD (k + 1) 0)
    split <;> omega
theorem b100_bd (r : List Int) : ∀ k, (∀ i, i < k → 0 ≤ r.getD i 0) → 0 ≤ b100 r k ∧ b100 r k ≤ 100
  | 0, _ => by simp [b100]
  | k + 1, h => by
    have h1 := b100_bd r k fun i hi => h i (by omega)
    have h2 := h k (by omega)
    rw [b100]
    split <;> omega
end Nt
open Go.RowKit
/-- Nothing has turned but the rows of us. -/
def KU (us : List Value) (w w' : World) : Prop := w.heap.size ≤ w'.heap.size ∧ ∀ g, g < w.heap.size → (∀ i, (us.getD i nilS).ownBlock ≠ some g) → w'.heap[g]? = w.heap[g]?
theorem KU.refl (us : List Value) (w : World) : KU us w w := ⟨Nat.le_refl _, fun _ _ _ => rfl⟩
theorem KU.below {us : List Value} {w w1 w2 : World} (h : KU us w w1) (hb : Below w1.heap.size w1 w2) : KU us w w2 := ⟨Nat.le_trans h.1 hb.size, fun g hg hn => (hb.block g (by have := h.1; omega)).trans (h.2 g hg hn)⟩
theorem KU.set {us : List Value} {w w1 : World} {q g n c k : Nat} {v : Value} (h : KU us w w1) (hu : us.getD q nilS = .slice (some ⟨g, 0, none⟩) n c) : KU us w (w1.setCell ⟨g, k, none⟩ v) :=
  ⟨by simpa using h.1, fun b hb hn => (Below.heap_setCell w1 ⟨g, k, none⟩ v b (fun e => hn q (by rw [hu]; simp [Value.ownBlock]; exact e.symm))).trans (h.2 b hb hn)⟩
theorem KU.below0 {us : List Value} {w w' : World} {base : Nat} (h : KU us w w') (hos : w'.os = w.os ∧ w'.tape = w.tape ∧ w'.output = w.output) (hb : base ≤ w.heap.size) (hu : ∀ i g, (us.getD i nilS).ownBlock = some g → base ≤ g) : Below base w w' :=
  ⟨hos.1, hos.2.1, hos.2.2, h.1, fun g hg => h.2 g (by omega) fun i e => by have := hu i g e; omega⟩
set_option maxRecDepth 100000 in
set_option maxHeartbeats 8000000 in
theorem slp_any {aw : Option Addr} {b o n c m d G cap base : Nat} {us : List Value} {W F : List (List Int)} {P : List Int} {w : World} (HN : Hid (W.length = n)) (HF : Hid (Nt.NF W F)) (HWY : Hid (Nt.Way (Nt.rooms W F) W.length P)) (HM : Hid (P.length = m)) (HWK : Hid (∀ V, Below base w V → CRow V aw W)) (HL : Hid (LL w base 25 3 1 ints (.slice (some ⟨G, 0, none⟩) n cap) us F)) (HPK : Hid (∀ V, KU us w V → ARow V (some ⟨b, o, none⟩) P)) (hbase : base ≤ w.heap.size) :
    Calls Try.prog 44 #[.slice aw n c, .slice (some ⟨G, 0, none⟩) n cap, .slice (some ⟨b, o, none⟩) m d] w fun e w' => e = .returned (.int .i64 (Nt.byI W F P)) ∧ LL w' base 25 3 1 ints (.slice (some ⟨G, 0, none⟩) n cap) us (Nt.pushL (Nt.byI W F P) F P) ∧ Below base w w' := by
  have HK := hide (pok_of HF.out HWY.out HN.out HM.out)
  have h8 := HK.out.n8
  have hm1 := HK.out.m1
  have hm9 := HK.out.m9
  have HFL : Hid (F.length = n) := hide (HF.out.len.trans HN.out)
  have HAL : Hid (∀ i, i + 1 < m → (Nt.along (Nt.rooms W F) P).getD i 0 = Nt.roomAt W F (P.getD i 0).toNat (P.getD (i + 1) 0).toNat) := hide fun i hi => by
    rw [Nt.along_at _ _ (by rw [HM.out]; exact hi)]
    have h1 := HK.out.lo i (by omega)
    have h2 := HK.out.lo (i + 1) (by omega)
    exact Nt.rooms_at W F (by rw [HN.out]; omega) (by rw [HN.out]; omega)
  have HALB : Hid (∀ i, i + 1 < m → 0 ≤ (Nt.along (Nt.rooms W F) P).getD i 0 ∧ (Nt.along (Nt.rooms W F) P).getD i 0 ≤ 100) := hide fun i hi => by
    rw [HAL.out i hi]
    have h1 := HK.out.lo i (by omega)
    have h2 := HK.out.lo (i + 1) (by omega)
    exact HF.out.room_bd (by rw [HN.out]; omega) (by rw [HN.out]; omega)
  have HBY : Hid (Nt.b100 (Nt.along (Nt.rooms W F) P) (m - 1) = Nt.byI W F P) := hide (by
    rw [Nt.b100_eq _ _ (by omega) (fun i hi => (HALB.out i (by omega)).2), Nt.byI, Nt.lst, Nt.along_len, HM.out])
  have HB0 := hide (Nt.b100_bd (Nt.along (Nt.rooms W F) P))
  obtain ⟨A, hA⟩ : ∃ A, A = Nt.along (Nt.rooms W F) P := ⟨_, rfl⟩
  rw [← hA] at HAL HALB HBY HB0
  obtain ⟨y, hy⟩ : ∃ y, y = Nt.byI W F P := ⟨_, rfl⟩
  rw [← hy] at HBY HK ⊢
  have HUL : Hid (us.length = n) := hide (HL.out.len.trans HFL.out)
  clear hA hy
  go_enter Try.func44, Try.ntmps44
  go_wp2_with fail
  go_loopw [7, 8, 9] (fun s7 s8 _ wr => ∃ (i q : Nat), s8 = .int .i64 ((i : Int) + 1) ∧ i + 1 ≤ m ∧ s7 = .int .i64 (Nt.b100 A i) ∧ Hid (wr = w.drewN q)) (fun _ s8 _ _ => m - (intOf s8).toNat)
  case atStart => exact ⟨0, 0, rfl, by omega, rfl, hide rfl⟩
  case round =>
    obtain ⟨i, q, rfl, hi, rfl, HQ⟩ := hrel
    have hb0 : Below w.heap.size w wr := by rw [HQ.out]; exact below_drewN (Below.refl _ _) q
    by_cases hlt : i + 1 < m
    · have l1 := HK.out.lo i (by omega)
      have l2 := HK.out.lo (i + 1) (by omega)
      obtain ⟨b1, o1, e1, r1⟩ := (HPK.out _ ((KU.refl us w).below hb0)).at (i := i) (by rw [HM.out]; omega)
      cases e1
      obtain ⟨b1, o1, e1, r2⟩ := (HPK.out _ ((KU.refl us w).below hb0)).at (i := i + 1) (by rw [HM.out]; exact hlt)
      cases e1
      have HAi := hide (HAL.out i hlt)
      have hab := HALB.out i hlt
      obtain ⟨p, ep⟩ : ∃ p : Nat, P.getD i 0 = (p : Int) := ⟨(P.getD i 0).toNat, by omega⟩
      obtain ⟨r, er⟩ : ∃ r : Nat, P.getD (i + 1) 0 = (r : Int) := ⟨(P.getD (i + 1) 0).toNat, by omega⟩
      rw [ep] at r1 l1 HAi
      rw [er] at r2 l2 HAi
      rw [Int.toNat_natCast, Int.toNat_natCast] at HAi
      have i0 : (0 : Int) ≤ (i : Int) := by omega
      have i1 : (i : Int) < (m : Int) := by omega
      have i2 : (0 : Int) ≤ (i : Int) + 1 := by omega
      have i3 : (i : Int) + 1 < (m : Int) := by omega
      have i4 : (i : Int) + 1 - 1 = (i : Int) := by omega
      have i5 : ((i : Int) + 1).toNat = i + 1 := by omega
      have r2' : wr.cell? ⟨b, o + ((i : Int) + 1).toNat, none⟩ = some (.int .i64 (r : Int)) := by rw [i5]; exact r2
      have HRM := hide fun (t : Nat) => slm_q (c := c) (d := cap) (w := wr.drewN t) HN (show p < n by omega) (show r < n by omega) HF (hide (HWK.out _ ((hb0.mono hbase).trans (below_drewN (Below.refl _ _) t)))) (hide (LL.crow (c := cap) (by rw [HFL.out]; exact (HL.out.below hb0).below (below_drewN (Below.refl _ _) t))))
      rw [← HAi.out] at HRM
      have HS : Hid (Nt.b100 A (i + 1) = if A.getD i 0 < Nt.b100 A i then A.getD i 0 else Nt.b100 A i) := hide rfl
      have HZB := hide (HB0.out i fun l hl => (HALB.out l (by omega)).1)
      generalize A.getD i 0 = x at *
      generalize Nt.b100 A i = z at *
      have HB0' := hide hb0
      clear hb0
      have hzb : 0 ≤ z ∧ z ≤ 100 := HZB.out
      obtain ⟨z0, z1⟩ := hzb
      by_cases hxz : x < z
      · have H1 : Hid (Nt.b100 A (i + 1) = x) := hide (by rw [HS.out, if_pos hxz])
        go_wp2_with fail
        go_quiet ((go_at_call 42; exact Calls.quiet_of (HRM.out _)))
        go_wp2_with fail
        go_roundw
        case rel => exact ⟨i + 1, q + nq, by simp, by omega, by rw [H1.out], hide (by rw [HQ.out, World.drewN_drewN])⟩
        case measure => simp only [intOf]; omega
      · have H1 : Hid (Nt.b100 A (i + 1) = z) := hide (by rw [HS.out, if_neg hxz])
        go_wp2_with fail
        go_quiet ((go_at_call 42; exact Calls.quiet_of (HRM.out _)))
        go_wp2_with fail
        go_roundw
        case rel => exact ⟨i + 1, q + nq, by simp, by omega, by rw [H1.out], hide (by rw [HQ.out, World.drewN_drewN])⟩
        case measure => simp only [intOf]; omega
    · have hie : i = m - 1 := by omega
      subst hie
      have i3 : ¬ ((m - 1 : Nat) : Int) + 1 < (m : Int) := by omega
      rw [HBY.out]
      have HLQ := hide (HL.out.below hb0)
      have HKQ := hide ((KU.refl us w).below hb0)
      have HBQ := hide (hb0.mono hbase)
      have hy0 := HK.out.y0
      have hy1 := HK.out.y1
      clear hb0 HQ
      go_wp2_with fail
      go_loopw [10, 11, 12, 13] (fun s10 _ _ _ wq => ∃ (j : Nat), s10 = .int .i64 ((j : Int) + 1) ∧ j + 1 ≤ m ∧ Hid (LL wq base 25 3 1 ints (.slice (some ⟨G, 0, none⟩) n cap) us (Nt.pushTo y F P j)) ∧ Hid (KU us w wq) ∧ Hid (Below base w wq)) (fun s10 _ _ _ _ => m - (intOf s10).toNat)
      case atStart => exact ⟨0, rfl, by omega, HLQ, HKQ, HBQ⟩
      case round =>
        clear HLQ HKQ HBQ
        obtain ⟨j, rfl, hj, HLQ, HKQ, HBQ⟩ := hrel
        by_cases hjm : j + 1 < m
        · have l1 := HK.out.lo j (by omega)
          have l2 := HK.out.lo (j + 1) (by omega)
          have ne := HK.out.ne j (by omega)
          obtain ⟨b1, o1, e1, r1⟩ := (HPK.out _ HKQ.out).at (i := j) (by rw [HM.out]; omega)
          cases e1
          obtain ⟨b1, o1, e1, r2⟩ := (HPK.out _ HKQ.out).at (i := j + 1) (by rw [HM.out]; exact hjm)
          cases e1
          obtain ⟨p, ep⟩ : ∃ p : Nat, P.getD j 0 = (p : Int) := ⟨(P.getD j 0).toNat, by omega⟩
          obtain ⟨q, eq⟩ : ∃ q : Nat, P.getD (j + 1) 0 = (q : Int) := ⟨(P.getD (j + 1) 0).toNat, by omega⟩
          rw [ep] at r1 l1 ne
          rw [eq] at r2 l2 ne
          have HST : Hid (Nt.pushTo y F P (j + 1) = Nt.stL (Nt.pushTo y F P j) y p q) := hide (by rw [Nt.pushTo, ep, eq, Int.toNat_natCast, Int.toNat_natCast])
          have hbd1 := HK.out.bd j (by omega) q p (by omega) (by omega)
          have hbd2 := HK.out.bd j (by omega) p q (by omega) (by omega)
          obtain ⟨gb, cb, ga, ca, S⟩ := HLQ.out.step13 (y := y) (p := p) (q := q) (by rw [Nt.pushTo_len]; exact HFL.out) (fun i hi => by rw [Nt.pushTo_row]; exact HK.out.row i hi) (by omega) (by omega) (by omega)
          generalize Nt.at2 (Nt.pushTo y F P j) q p = x1 at *
          generalize Nt.at2 (Nt.pushTo y F P j) p q = x2 at *
          obtain ⟨c1, s1, f1, c2, s2, f2, L2, b1, b2, u1, u2⟩ := S
          rw [← HST.out] at L2
          have hmn : 0 ≤ min y x1 ∧ min y x1 ≤ 50 := by omega
          have HMN : Hid (min y x1 = if y < x1 then y else x1) := hide (by split <;> omega)
          have HK2 := (HKQ.out.set (k := p) (v := .int .i64 (x1 - min y x1)) u1).set (k := q) (v := .int .i64 (x2 + (y - min y x1))) u2
          have HB2 := (HBQ.out.setCell (p := ⟨gb, p, none⟩) b1 (.int .i64 (x1 - min y x1))).setCell (p := ⟨ga, q, none⟩) b2 (.int .i64 (x2 + (y - min y x1)))
          generalize min y x1 = t at *
          have HL2 := hide L2
          have HKU2 := hide HK2
          have HBE2 := hide HB2
          have HC2 := hide c2
          have HS2 := hide s2
          have HF2 := hide f2
          obtain ⟨t0, t1⟩ := hmn
          obtain ⟨x10, x11⟩ := hbd1
          obtain ⟨x20, x21⟩ := hbd2
          have i0 : (0 : Int) ≤ (j : Int) := by omega
          have i1 : (j : Int) < (m : Int) := by omega
          have i2 : (0 : Int) ≤ (j : Int) + 1 := by omega
          have i3' : (j : Int) + 1 < (m : Int) := by omega
          have i4 : (j : Int) + 1 - 1 = (j : Int) := by omega
          have i5 : ((j : Int) + 1).toNat = j + 1 := by omega
          have r2' : wr.cell? ⟨b, o + ((j : Int) + 1).toNat, none⟩ = some (.int .i64 (q : Int)) := by rw [i5]; exact r2
          have p0 : (0 : Int) ≤ (p : Int) := by omega
          have p1 : (p : Int) < (n : Int) := by omega
          have q0 : (0 : Int) ≤ (q : Int) := by omega
          have q1 : (q : Int) < (n : Int) := by omega
          clear HST l1 l2 ne HLQ L2 HK2 HB2 c2 s2 f2 u1 u2
          go_upto_if 60 with fail
          go_cut [13] from 36 to 83 (fun s13 wc => s13 = .int .i64 t ∧ wc = wr)
          case first =>
            by_cases hyx : y < x1
            · have ht : t = y := by rw [HMN.out, if_pos hyx]
              subst ht
              go_wp2_with fail
              go_meet
              case rel => exact ⟨rfl, rfl⟩
            · have ht : t = x1 := by rw [HMN.out, if_neg hyx]
              subst ht
              go_wp2_with fail
              go_meet
              case rel => exact ⟨rfl, rfl⟩
          case rest =>
            obtain ⟨rfl, rfl⟩ := hcut
            have c2 := HC2.out
            have s2 := HS2.out
            have f2 := HF2.out
            have w1 : wrap64 (x1 - t) = x1 - t := wrap_id' _ (by omega) (by omega)
            have w2 : wrap64 (y - t) = y - t := wrap_id' _ (by omega) (by omega)
            have w3 : wrap64 (x2 + (y - t)) = x2 + (y - t) := wrap_id' _ (by omega) (by omega)
            clear HMN
            go_wp2_with fail
            go_roundw
            case rel => exact ⟨j + 1, by simp, by omega, HL2, HKU2, HBE2⟩
            case measure => simp only [intOf]; omega
        · have hje : j = m - 1 := by omega
          subst hje
          have HLE : Hid (LL wr base 25 3 1 ints (.slice (some ⟨G, 0, none⟩) n cap) us (Nt.pushL y F P)) := hide (by rw [Nt.pushL, HM.out]; exact HLQ.out)
          go_wp2_with fail
          go_ret
          exact ⟨rfl, HLE.out, HBQ.out⟩
end Go.Proofs.Ytnepjahhconodaa
namespace Go.Proofs.Ytnepjahhconodaa
namespace Nt
def pwB (W F : List (List Int)) (P : List Int) : Bool := nfB W F && wayB (rooms W F) W.length P
def pwL (W F : List (List Int)) (P : List Int) : List (List Int) := if pwB W F P then pushL (byI W F P) F P else []
def pwI (W F : List (List Int)) (P : List Int) : Int := if pwB W F P then byI W F P else 0
theorem NF.rooms_nn {W F : List (List Int)} (h : NF W F) : ∀ i k, i < W.length → k < W.length → 0 ≤ at2 (rooms W F) i k := fun i k hi hk => by rw [rooms_at W F hi hk]; exact (h.room_bd hi hk).1
theorem pw_way {W F : List (List Int)} {P : List Int} (hf : NF W F) (h : wayB (rooms W F) W.length P = true) : Way (rooms W F) W.length P := way_of (rowsB_len (netB_rows hf.net)).1 h hf.rooms_nn
end Nt
open Go.RowKit
/-- A list of ints behind an empty one. -/
theorem copy13 {w : World} {a : Option Addr} {n c : Nat} {xs : List Int} (hx : xs.length = n) (hn : n ≤ 1000) (ha : ARow w a xs) :
    ∃ v' w', (∀ ty, (Builtin.append_ #[25, 25] ty #[.slice (some ⟨w.heap.size, 0, none⟩) 0 0, .slice a n c]).run Try.prog (w.alloc (.cells #[] 3)) = .ok v' w') ∧ w'.ownsRow w.heap.size 3 1 v' n (ints xs) ∧ Below w.heap.size w w' := by
  obtain ⟨i0', hi', hz0, hz1, hz2⟩ := infoI
  have hno : (w.alloc (.cells #[] 3)).ownsRow w.heap.size 3 1 (.slice (some ⟨w.heap.size, 0, none⟩) 0 0) 0 [] := by
    have h := World.ownsRow_lit (base := w.heap.size) (e := 3) (size := 1) w #[] 0 (Nat.le_refl _) (by unfold maxLen; omega) (by simp)
    simpa using h
  obtain ⟨v', w', h1, h2, h3⟩ := run_append_v (P := Try.prog) (w.alloc (.cells #[] 3)) w.heap.size 25 0 3 i0' _ 8 Try.underlying25 hi' hz0 hz1 hz2 rfl _ 0 _ hno a n c (ints xs) (by rw [ints_len, hx]) (ha.below (below_new _ _)).vrow (c_ints xs) (by unfold maxLen; omega) (by omega) (by simp)
  rw [Nat.zero_add] at h2
  exact ⟨v', w', fun _ => h1, h2, (below_new w _).trans (grown_under' h3 hno (Nat.le_refl _) (by simp))⟩
set_option maxRecDepth 100000 in
set_option maxHeartbeats 4000000 in
theorem slo_any {af : Option Addr} {n d : Nat} {F : List (List Int)} {w : World} (HM : Hid (F.length = n)) (h8 : n ≤ 8) (HRW : Hid (∀ i, i < n → (F.getD i []).length = n)) (HA : Hid (CRow w af F)) :
    Calls Try.prog 62 #[.slice af n d] w fun e w' => ∃ v us, e = .returned v ∧ LL w' w.heap.size 25 3 1 ints v us F ∧ Below w.heap.size w w' := by
  go_enter Try.func62, Try.ntmps62
  go_wp2_with fail
  go_loopw [3, 5, 8] (fun s3 _ sk wr => ∃ (k : Nat) (us : List Value), sk = .int .i64 k ∧ k ≤ n ∧ Hid (LL wr w.heap.size 25 3 1 ints s3 us (F.take k)) ∧ Hid (Below w.heap.size w wr)) (fun _ _ sk _ => n - (intOf sk).toNat)
  case atStart => exact ⟨0, [], rfl, Nat.zero_le _, hide (LL.nil _ _ _ _ _ _), hide (Below.refl _ _)⟩
  case round =>
    obtain ⟨k, us, rfl, hk, HL, HB⟩ := hrel
    by_cases hlt : k < n
    · obtain ⟨b, off, ai, ci, rfl, hb, r1, R1⟩ := (HA.out.below HB.out).at (i := k) (by rw [HM.out]; exact hlt)
      rw [HRW.out k hlt] at r1
      have j0 : (0 : Int) ≤ (k : Int) := by omega
      have j1 : (k : Int) < (n : Int) := by omega
      have hkl : (F.take k).length = k := by rw [List.length_take, HM.out]; omega
      obtain ⟨av, cv, ev⟩ := HL.out.form
      rw [hkl] at ev
      subst ev
      obtain ⟨u, w0, p0, own0, hb0⟩ := copy13 (c := ci) (HRW.out k hlt) (by omega) R1
      obtain ⟨au, cu, eu⟩ := own_form2 own0
      subst eu
      obtain ⟨G, cap, w1, p1, L1, B1⟩ := HL.out.pushRow (V := w0) (u := .slice au n cu) (r := F.getD k []) hb0 (by rw [HRW.out k hlt]; exact own0) rfl (by rw [hkl]; omega) HB.out.size
      rw [hkl] at p1 L1
      have hts : F.take k ++ [F.getD k []] = F.take (k + 1) := by rw [List.take_succ_eq_append_getElem (by rw [HM.out]; exact hlt), Pf.getD_lt _ _ (by rw [HM.out]; exact hlt)]
      rw [hts] at L1
      have r1' : (wr.alloc (.cells #[] 3)).cell? ⟨b, off + k, none⟩ = some (.slice ai n ci) := ((below_new wr _).cell (p := ⟨b, off + k, none⟩) hb).trans r1
      have HL1 := hide L1
      have HB1 := hide (HB.out.trans (B1.mono (Nat.le_refl _)))
      clear L1 B1 HL hkl hts own0 hb0 R1
      go_wp2_with (first | (at_builtin; refine Lib.wpList_append_run _ rfl (.tmp 13) (.tmp 14) 25 25 rfl _ _ rfl rfl _ _ (p0 _) ?_) | (at_builtin; refine Lib.wpList_append_run _ rfl (.tmp 12) (.tmp 16) 23 23 rfl _ _ rfl rfl _ _ (p1 _) ?_))
      go_roundw
      case rel => exact ⟨k + 1, _, by go_num, by omega, HL1, HB1⟩
      case measure => simp only [intOf]; omega
    · have hke : k = n := by omega
      subst hke
      have HE : Hid (F.take k = F) := hide (List.take_of_length_le (by rw [HM.out]; exact Nat.le_refl _))
      rw [HE.out] at HL
      go_wp2_with fail
      go_ret
      first | exact ⟨_, us, rfl, HL.out, HB.out⟩ | exact ⟨_, rfl, ⟨us, HL.out⟩, HB.out⟩
end Go.Proofs.Ytnepjahhconodaa
