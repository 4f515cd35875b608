/-
  Plain facts, of no program: costs and gains over one common denominator; counts cost least just if they are stable; sharing one by one is stable.
-/
import Derived.Test.YtljccbnkibfimaaSa
namespace Go.Proofs.Ytljccbnkibfimaa.Sh

/-- A multiple of all numbers up to 41. -/
def D : Int := 219060189739591200
def uc (c : Int) : Int := D / c
theorem uc_all : ∀ k : Fin 42, 1 ≤ k.val → (D / (k.val : Int)) * (k.val : Int) = D := by decide
theorem uc_mul {c : Int} (h1 : 1 ≤ c) (h2 : c ≤ 41) : uc c * c = D := by
  obtain ⟨k, rfl⟩ := Int.eq_ofNat_of_zero_le (show 0 ≤ c by omega)
  exact uc_all ⟨k, by omega⟩ (by show 1 ≤ k; omega)
theorem uc_cvx_all : ∀ k : Fin 40, 1 ≤ k.val → 2 * (D / ((k.val : Int) + 1)) ≤ D / (k.val : Int) + D / ((k.val : Int) + 2) := by decide
theorem uc_cvx {c : Int} (h1 : 1 ≤ c) (h2 : c ≤ 39) : 2 * uc (c + 1) ≤ uc c + uc (c + 2) := by
  obtain ⟨k, rfl⟩ := Int.eq_ofNat_of_zero_le (show 0 ≤ c by omega)
  exact uc_cvx_all ⟨k, by omega⟩ (by show 1 ≤ k; omega)
def U (f c : Int) : Int := f * uc c
/-- By how much less the cost is with one more. -/
def drop (f c : Int) : Int := U f c - U f (c + 1)
theorem drop_mono {f c : Int} (hf : 0 ≤ f) (h1 : 1 ≤ c) (h2 : c ≤ 39) : drop f (c + 1) ≤ drop f c := by
  have := Int.mul_le_mul_of_nonneg_left (uc_cvx h1 h2) hf
  unfold drop U
  rw [Int.mul_add, show f * (2 * uc (c + 1)) = 2 * (f * uc (c + 1)) by rw [← Int.mul_assoc, Int.mul_comm f 2, Int.mul_assoc]] at this
  rw [show c + 1 + 1 = c + 2 by omega]
  omega
theorem drop_den {f c : Int} (h1 : 1 ≤ c) (h2 : c ≤ 40) : f * D = drop f c * (c * (c + 1)) := by
  have a := uc_mul h1 (by omega)
  have b := uc_mul (c := c + 1) (by omega) (by omega)
  unfold drop U
  have e1 : (f * uc c - f * uc (c + 1)) * (c * (c + 1)) = f * (uc c * c) * (c + 1) - f * (uc (c + 1) * (c + 1)) * c := by
    rw [Int.sub_mul]
    congr 1 <;> ac_rfl
  rw [e1, a, b, Int.mul_add]
  omega
/-- p is S parts of the common denominator. -/
def Is (p : Int × Int) (S : Int) : Prop := p.1 * D = S * p.2
theorem D_pos : 0 < D := by decide
theorem is_less {p q : Int × Int} {S T : Int} (hp : goodF p = true) (hq : goodF q = true) (h1 : Is p S) (h2 : Is q T) : less p q = decide (S < T) := by
  have dp := good_pos hp
  have dq := good_pos hq
  have hpq : 0 < p.2 * q.2 := Int.mul_pos (by omega) (by omega)
  unfold less Fr.lessB
  unfold Is at h1 h2
  have e1 : D * (p.1 * q.2) = p.2 * q.2 * S := by rw [show D * (p.1 * q.2) = p.1 * D * q.2 by ac_rfl, h1]; ac_rfl
  have e2 : D * (q.1 * p.2) = p.2 * q.2 * T := by rw [show D * (q.1 * p.2) = q.1 * D * p.2 by ac_rfl, h2]; ac_rfl
  congr 1
  refine propext ⟨fun h => ?_, fun h => ?_⟩
  · have := Int.mul_lt_mul_of_pos_left h D_pos
    rw [e1, e2] at this
    exact Int.lt_of_mul_lt_mul_left this (by omega)
  · have := Int.mul_lt_mul_of_pos_left h hpq
    rw [← e1, ← e2] at this
    exact Int.lt_of_mul_lt_mul_left this (by have := D_pos; omega)
theorem is_uniq {p : Int × Int} {S T : Int} (hp : goodF p = true) (h1 : Is p S) (h2 : Is p T) : S = T := by
  have dp := good_pos hp
  unfold Is at h1 h2
  exact Int.eq_of_mul_eq_mul_right (a := p.2) (by omega) (by rw [← h1, ← h2])
theorem is_eq {p q : Int × Int} {S : Int} (hp : goodF p = true) (hq : goodF q = true) (h1 : Is p S) (h2 : Is q S) : p = q := by
  have a := is_less hp hq h1 h2
  have b := is_less hq hp h2 h1
  simp at a b
  rcases Fr.less_cases p.1 p.2 q.1 q.2 hp hq with ⟨x, _⟩ | ⟨_, x⟩ | ⟨_, _, x, y⟩
  · unfold less at a; rw [a] at x; cases x
  · unfold less at b; rw [b] at x; cases x
  · exact Prod.ext x y
theorem mk_is {n d S : Int} (hd : 0 < d) (h : n * D = S * d) : Is (mk n d) S := by
  obtain ⟨G, hG, en, ed, _⟩ := mk_facts n d hd
  unfold Is
  generalize mk n d = p at *
  rw [en, ed] at h
  refine Int.eq_of_mul_eq_mul_left (a := G) (by omega) ?_
  rw [← Int.mul_assoc, h]; ac_rfl
theorem gain_is {f c : Int} (h1 : 1 ≤ c) (h2 : c ≤ 40) : Is (gain f c) (drop f c) := mk_is (gain_den h1 h2).1 (drop_den h1 h2)
theorem loss_is {f c : Int} (h1 : 1 < c) (h2 : c ≤ 40) : Is (loss f c) (drop f (c - 1)) := by
  refine mk_is (loss_den h1 h2).1 ?_
  rw [drop_den (c := c - 1) (by omega) (by omega), show c - 1 + 1 = c by omega, Int.mul_comm (c - 1) c]
theorem cost_is {f c : Int} (h1 : 1 ≤ c) (h2 : c ≤ 41) : Is (cost f c) (U f c) := by
  refine mk_is (by omega) ?_
  unfold U; rw [Int.mul_assoc, uc_mul h1 h2]
theorem add_is {n1 d1 n2 d2 S T : Int} (h : Fr.addB n1 d1 n2 d2 = true) (h1 : Is (n1, d1) S) (h2 : Is (n2, d2) T) : Is (Fr.addN n1 d1 n2 d2, Fr.addD n1 d1 n2 d2) (S + T) ∧ goodF (Fr.addN n1 d1 n2 d2, Fr.addD n1 d1 n2 d2) = true := by
  unfold Fr.addB at h
  simp only [Bool.and_eq_true] at h
  obtain ⟨⟨g1, g2⟩, g3⟩ := h
  have p1 := (Fr.good_bd _ _ g1).2.2.1
  have p2 := (Fr.good_bd _ _ g2).2.2.1
  have e1 : Fr.addN n1 d1 n2 d2 = Fr.mkN (n1 * d2 + n2 * d1) (d1 * d2) := by unfold Fr.addN Fr.fitN; rw [g1, g2]; simp [g3]
  have e2 : Fr.addD n1 d1 n2 d2 = Fr.mkD (n1 * d2 + n2 * d1) (d1 * d2) := by unfold Fr.addD Fr.fitD; rw [g1, g2]; simp [g3]
  rw [e1, e2]
  refine ⟨mk_is (n := n1 * d2 + n2 * d1) (d := d1 * d2) (Int.mul_pos (by omega) (by omega)) ?_, g3⟩
  unfold Is at h1 h2
  simp only at h1 h2
  rw [Int.add_mul, Int.add_mul, show n1 * d2 * D = n1 * D * d2 by ac_rfl, show n2 * d1 * D = n2 * D * d1 by ac_rfl, h1, h2]
  congr 1 <;> ac_rfl
theorem sub_is {n1 d1 n2 d2 S T : Int} (h : Fr.subB n1 d1 n2 d2 = true) (h1 : Is (n1, d1) S) (h2 : Is (n2, d2) T) : Is (Fr.subN n1 d1 n2 d2, Fr.subD n1 d1 n2 d2) (S - T) ∧ goodF (Fr.subN n1 d1 n2 d2, Fr.subD n1 d1 n2 d2) = true := by
  unfold Fr.subB at h
  simp only [Bool.and_eq_true] at h
  obtain ⟨⟨g1, g2⟩, g3⟩ := h
  have p1 := (Fr.good_bd _ _ g1).2.2.1
  have p2 := (Fr.good_bd _ _ g2).2.2.1
  have e1 : Fr.subN n1 d1 n2 d2 = Fr.mkN (n1 * d2 - n2 * d1) (d1 * d2) := by unfold Fr.subN Fr.fitN; rw [g1, g2]; simp [g3]
  have e2 : Fr.subD n1 d1 n2 d2 = Fr.mkD (n1 * d2 - n2 * d1) (d1 * d2) := by unfold Fr.subD Fr.fitD; rw [g1, g2]; simp [g3]
  rw [e1, e2]
  refine ⟨mk_is (n := n1 * d2 - n2 * d1) (d := d1 * d2) (Int.mul_pos (by omega) (by omega)) ?_, g3⟩
  unfold Is at h1 h2
  simp only at h1 h2
  rw [Int.sub_mul, Int.sub_mul, show n1 * d2 * D = n1 * D * d2 by ac_rfl, show n2 * d1 * D = n2 * D * d1 by ac_rfl, h1, h2]
  congr 1 <;> ac_rfl

/-- What counts cost, in parts of the common denominator. -/
def tot : List Int → List Int → Int
  | f :: fs, c :: cs => U f c + tot fs cs
  | _, _ => 0
theorem each_cons (F : Int → Int → Int × Int) (f c : Int) (fs cs : List Int) : each F (f :: fs) (c :: cs) = F f c :: each F fs cs := by
  simp [each, List.range_succ_eq_map, Function.comp_def]
theorem sum_is : ∀ (fs cs : List Int) (n d S : Int) (p : Int × Int), cs.length = fs.length → (∀ i, i < fs.length → 1 ≤ cs.getD i 0 ∧ cs.getD i 0 ≤ 41) → goodF (n, d) = true → Is (n, d) S → Fr.sumL (each cost fs cs) n d = some p → Is p (S + tot fs cs) ∧ goodF p = true
  | [], [], n, d, S, p, _, _, hg, h, hs => by
    simp [each, Fr.sumL] at hs
    subst hs
    simpa [tot] using ⟨h, hg⟩
  | f :: fs, c :: cs, n, d, S, p, hl, hc, hg, h, hs => by
    rw [each_cons] at hs
    unfold Fr.sumL at hs
    split at hs
    · rename_i hadd
      have c0 := hc 0 (by simp)
      simp at c0
      obtain ⟨h1, h2⟩ := add_is hadd h (cost_is (f := f) c0.1 c0.2)
      have := sum_is fs cs _ _ _ p (by simpa using hl) (fun i hi => by simpa using hc (i + 1) (by simpa using hi)) h2 h1 hs
      rw [tot, ← Int.add_assoc]; exact this
    · cases hs
  | [], _ :: _, _, _, _, _, hl, _, _, _, _ => by simp at hl
  | _ :: _, [], _, _, _, _, hl, _, _, _, _ => by simp at hl
theorem zero_good : goodF (0, 1) = true := by decide
/-- The cost is just that. -/
theorem cost_tot {fs cs : List Int} (h : sharedB fs cs = true) (hb : Fr.sumB (each cost fs cs) = true) : Is (Fr.sumN (each cost fs cs), Fr.sumD (each cost fs cs)) (tot fs cs) ∧ goodF (Fr.sumN (each cost fs cs), Fr.sumD (each cost fs cs)) = true := by
  have hl : (each cost fs cs).length ≤ 50 := by rw [each_len]; have := flowB_yes (sharedB_yes h).1; omega
  cases e : Fr.sumL (each cost fs cs) 0 1 with
  | none => have := (Fr.sum_none _ e).2.2; rw [this] at hb; cases hb
  | some p =>
    have s := Fr.sum_some _ hl p.1 p.2 e
    rw [s.1, s.2.1]
    have := sum_is fs cs 0 1 0 p (sharedB_yes h).2.1 (fun i hi => by have := sharedB_at h hi; omega) zero_good (by unfold Is; simp) e
    simpa using this

theorem up_le {f c L : Int} (hf : 0 ≤ f) (h1 : 1 ≤ c) (hL : drop f c ≤ L) : ∀ k : Nat, c + k ≤ 40 → U f c - k * L ≤ U f (c + k) ∧ drop f (c + k) ≤ L
  | 0, _ => by simpa using hL
  | k + 1, hk => by
    obtain ⟨a, b⟩ := up_le hf h1 hL k (by omega)
    have m := drop_mono (f := f) (c := c + k) hf (by omega) (by omega)
    have e : c + ((k + 1 : Nat) : Int) = c + k + 1 := by omega
    have e2 : ((k + 1 : Nat) : Int) * L = k * L + L := by rw [Int.natCast_add, Int.add_mul]; simp
    rw [e, e2]
    refine ⟨?_, Int.le_trans m b⟩
    unfold drop at b
    omega
theorem down_le {f c L : Int} (hf : 0 ≤ f) (h2 : c ≤ 40) (hL : 1 < c → L ≤ drop f (c - 1)) : ∀ k : Nat, 1 ≤ c - k → U f c + k * L ≤ U f (c - k) ∧ (1 < c - k → L ≤ drop f (c - k - 1))
  | 0, _ => by simpa using hL
  | k + 1, hk => by
    obtain ⟨a, b⟩ := down_le hf h2 hL k (by omega)
    have b' := b (by omega)
    have e : c - ((k + 1 : Nat) : Int) = c - k - 1 := by omega
    have e2 : ((k + 1 : Nat) : Int) * L = k * L + L := by rw [Int.natCast_add, Int.add_mul]; simp
    rw [e, e2]
    refine ⟨?_, fun h => ?_⟩
    · unfold drop at b'
      rw [show c - k - 1 + 1 = c - k by omega] at b'
      omega
    · have m := drop_mono (f := f) (c := c - k - 1 - 1) hf (by omega) (by omega)
      rw [show c - (k : Int) - 1 - 1 + 1 = c - k - 1 by omega] at m
      exact Int.le_trans b' m
/-- One kind: other counts cost no less than by L for each place. -/
theorem one_le {f c d L : Int} (hf : 0 ≤ f) (c1 : 1 ≤ c) (c2 : c ≤ 40) (d1 : 1 ≤ d) (d2 : d ≤ 40) (h1 : drop f c ≤ L) (h2 : 1 < c → L ≤ drop f (c - 1)) : (c - d) * L ≤ U f d - U f c := by
  rcases Int.le_total c d with h | h
  · obtain ⟨k, hk⟩ := Int.eq_ofNat_of_zero_le (show 0 ≤ d - c by omega)
    have := (up_le hf c1 h1 k (by omega)).1
    rw [show c + (k : Int) = d by omega] at this
    rw [show c - d = -(k : Int) by omega, Int.neg_mul]
    omega
  · obtain ⟨k, hk⟩ := Int.eq_ofNat_of_zero_le (show 0 ≤ c - d by omega)
    have := (down_le hf c2 h2 k (by omega)).1
    rw [show c - (k : Int) = d by omega] at this
    rw [hk]
    omega
theorem tot_le (L : Int) : ∀ fs cs ds : List Int, cs.length = fs.length → ds.length = fs.length → (∀ i, i < fs.length → (cs.getD i 0 - ds.getD i 0) * L ≤ U (fs.getD i 0) (ds.getD i 0) - U (fs.getD i 0) (cs.getD i 0)) → (cs.sum - ds.sum) * L ≤ tot fs ds - tot fs cs
  | [], [], [], _, _, _ => by simp [tot]
  | f :: fs, c :: cs, d :: ds, h1, h2, h => by
    have ih := tot_le L fs cs ds (by simpa using h1) (by simpa using h2) (fun i hi => by simpa using h (i + 1) (by simpa using hi))
    have h0 := h 0 (by simp)
    simp at h0
    simp only [List.sum_cons, tot]
    have e : (c + cs.sum - (d + ds.sum)) * L = (c - d) * L + (cs.sum - ds.sum) * L := by rw [← Int.add_mul]; congr 1; omega
    rw [e]; omega
  | [], _ :: _, _, h, _, _ => by simp at h
  | [], [], _ :: _, _, h, _ => by simp at h
  | _ :: _, [], _, h, _, _ => by simp at h
  | _ :: _, _ :: _, [], _, h, _ => by simp at h

/-- Stable, told by parts. -/
def Calm (fs cs : List Int) : Prop := ∀ i k, i < fs.length → k < fs.length → 1 < cs.getD i 0 → drop (fs.getD k 0) (cs.getD k 0) ≤ drop (fs.getD i 0) (cs.getD i 0 - 1)
theorem stable_iff {fs cs : List Int} (h : sharedB fs cs = true) : stableB fs cs = true ↔ Calm fs cs := by
  have fl := fun i hi => flowB_at (sharedB_yes h).1 (i := i) hi
  have cn := fun i hi => sharedB_at h (i := i) hi
  constructor
  · intro hs i k hi hk hc
    by_cases e : k = i
    · subst e
      have := drop_mono (f := fs.getD k 0) (c := cs.getD k 0 - 1) (by have := fl k hk; omega) (by omega) (by have := cn k hk; omega)
      rwa [show cs.getD k 0 - 1 + 1 = cs.getD k 0 by omega] at this
    · simp only [stableB, List.all_eq_true, List.mem_range] at hs
      have h1 := hs i hi
      simp only [stableAt, Bool.or_eq_true, List.all_eq_true, List.mem_range, beq_iff_eq] at h1
      rcases h1 with h1 | h1
      · omega
      · rcases h1 k hk with h2 | h2
        · exact absurd h2 e
        · have fi := fl i hi
          have fk := fl k hk
          have ci := cn i hi
          have ck := cn k hk
          rw [is_less (loss_good fi.1 fi.2 hc ci.2) (gain_good fk.1 fk.2 ck.1 ck.2) (loss_is hc ci.2) (gain_is ck.1 ck.2)] at h2
          simp only [Bool.not_eq_true', decide_eq_false_iff_not] at h2
          omega
  · intro hc
    simp only [stableB, List.all_eq_true, List.mem_range]
    intro i hi
    simp only [stableAt, Bool.or_eq_true, List.all_eq_true, List.mem_range, beq_iff_eq]
    by_cases e : cs.getD i 0 = 1
    · exact Or.inl e
    · refine Or.inr fun k hk => Or.inr ?_
      have fi := fl i hi
      have fk := fl k hk
      have ci := cn i hi
      have ck := cn k hk
      have := hc i k hi hk (by omega)
      rw [is_less (loss_good fi.1 fi.2 (by omega) ci.2) (gain_good fk.1 fk.2 ck.1 ck.2) (loss_is (by omega) ci.2) (gain_is ck.1 ck.2)]
      simp only [Bool.not_eq_true', decide_eq_false_iff_not]
      omega
theorem next_drop {fs cs : List Int} (h : sharedB fs cs = true) {k : Nat} (hk : k < fs.length) : drop (fs.getD k 0) (cs.getD k 0) ≤ drop (fs.getD (next fs cs) 0) (cs.getD (next fs cs) 0) := by
  have hn := next_lt (fs := fs) cs (by omega)
  have fi := flowB_at (sharedB_yes h).1 hn
  have fk := flowB_at (sharedB_yes h).1 hk
  have ci := sharedB_at h hn
  have ck := sharedB_at h hk
  have := next_best h hk
  rw [is_less (gain_good fi.1 fi.2 ci.1 ci.2) (gain_good fk.1 fk.2 ck.1 ck.2) (gain_is ci.1 ci.2) (gain_is ck.1 ck.2)] at this
  simp only [decide_eq_false_iff_not] at this
  omega
/-- Stable counts cost least. -/
theorem calm_least {fs cs ds : List Int} (h : sharedB fs cs = true) (hc : Calm fs cs) (h' : sharedB fs ds = true) (hs : ds.sum = cs.sum) : tot fs cs ≤ tot fs ds := by
  have hpos : 0 < fs.length := by have := flowB_yes (sharedB_yes h).1; omega
  have hn := next_lt (fs := fs) cs hpos
  have := tot_le (drop (fs.getD (next fs cs) 0) (cs.getD (next fs cs) 0)) fs cs ds (sharedB_yes h).2.1 (sharedB_yes h').2.1 (fun i hi => by
    have fi := flowB_at (sharedB_yes h).1 hi
    have ci := sharedB_at h hi
    have di := sharedB_at h' hi
    exact one_le (by omega) ci.1 ci.2 di.1 di.2 (next_drop h hi) (fun hlt => hc i _ hi hn hlt))
  rw [hs, Int.sub_self, Int.zero_mul] at this
  omega
theorem tot_set : ∀ (fs cs : List Int) (k : Nat) (x : Int), cs.length = fs.length → k < fs.length → tot fs (cs.set k x) = tot fs cs - U (fs.getD k 0) (cs.getD k 0) + U (fs.getD k 0) x
  | f :: fs, c :: cs, 0, x, _, _ => by simp [tot]; omega
  | f :: fs, c :: cs, k + 1, x, h, hk => by
    have ih := tot_set fs cs k x (by simpa using h) (by simpa using hk)
    simp only [List.set_cons_succ, tot, List.getD_cons_succ]
    omega
  | [], _, _, _, _, hk => by simp at hk
  | _ :: _, [], _, _, h, _ => by simp at h
theorem shared_of {fs cs : List Int} (h : flowB fs = true) (hl : cs.length = fs.length) (h1 : ∀ i, i < fs.length → 1 ≤ cs.getD i 0) (hs : cs.sum ≤ 40) : sharedB fs cs = true := by
  refine sharedB_of h hl (Pf.allB_of fun i hi => ?_) hs
  have h2 := at_le_sum (cs := cs) (fun i hi => h1 i (by omega)) i hi
  exact Pf.inB_of (h1 i (by omega)) (by omega)
/-- Counts that are not stable can be bettered. -/
theorem not_calm {fs cs : List Int} (h : sharedB fs cs = true) (hc : ¬ Calm fs cs) : ∃ ds, sharedB fs ds = true ∧ ds.sum = cs.sum ∧ tot fs ds < tot fs cs := by
  unfold Calm at hc
  simp only [Classical.not_forall] at hc
  obtain ⟨i, k, hi, hk, h1, hlt⟩ := hc
  have hl := (sharedB_yes h).2.1
  have hne : k ≠ i := by
    rintro rfl
    have := drop_mono (f := fs.getD k 0) (c := cs.getD k 0 - 1) (by have := flowB_at (sharedB_yes h).1 hk; omega) (by omega) (by have := sharedB_at h hk; omega)
    rw [show cs.getD k 0 - 1 + 1 = cs.getD k 0 by omega] at this
    exact hlt this
  have e1 : (cs.set i (cs.getD i 0 - 1)).getD k 0 = cs.getD k 0 := by rw [set_get _ _ _ _ (by omega), if_neg hne]
  have hsum : ((cs.set i (cs.getD i 0 - 1)).set k (cs.getD k 0 + 1)).sum = cs.sum := by
    rw [set_sum _ _ _ (by simp; omega), set_sum _ _ _ (by omega), e1]; omega
  refine ⟨(cs.set i (cs.getD i 0 - 1)).set k (cs.getD k 0 + 1), shared_of (sharedB_yes h).1 (by simp [hl]) (fun j hj => ?_) (by rw [hsum]; exact (sharedB_yes h).2.2.2), hsum, ?_⟩
  · rw [set_get _ _ _ _ (by simp; omega), set_get _ _ _ _ (by omega)]
    have := sharedB_at h hj
    have := sharedB_at h hk
    split
    · omega
    · split <;> omega
  · rw [tot_set _ _ _ _ (by simp [hl]) hk, tot_set _ _ _ _ hl hi, e1]
    unfold drop at hlt
    rw [show cs.getD i 0 - 1 + 1 = cs.getD i 0 by omega] at hlt
    omega
/-- Sharing one by one is stable. -/
theorem share_calm {fs : List Int} (h : flowB fs = true) : ∀ n : Nat, fs.length + n ≤ 40 → Calm fs (share fs n)
  | 0, _ => fun i k hi hk hc => by simp [share, hi] at hc
  | n + 1, hn => fun i k hi hk hc => by
    have ih := share_calm h n (by omega)
    have hs := share_shared h n (by omega)
    have hs' := share_shared h (n + 1) hn
    have hpos : 0 < fs.length := by omega
    have hnx := next_lt (fs := fs) (share fs n) hpos
    have gt := fun j => set_get (share fs n) (next fs (share fs n)) j ((share fs n).getD (next fs (share fs n)) 0 + 1) (by rw [share_len]; exact hnx)
    have gi : (share fs (n + 1)).getD i 0 = if i = next fs (share fs n) then (share fs n).getD (next fs (share fs n)) 0 + 1 else (share fs n).getD i 0 := gt i
    have gk : (share fs (n + 1)).getD k 0 = if k = next fs (share fs n) then (share fs n).getD (next fs (share fs n)) 0 + 1 else (share fs n).getD k 0 := gt k
    have fk := flowB_at h hk
    have ck := sharedB_at hs hk
    have ck' := sharedB_at hs' hk
    -- what the others gain is no more than before
    have low : drop (fs.getD k 0) ((share fs (n + 1)).getD k 0) ≤ drop (fs.getD k 0) ((share fs n).getD k 0) := by
      rw [gk]
      split
      · rename_i e
        rw [gk, if_pos e] at ck'
        rw [← e] at ck' ⊢
        exact drop_mono (by omega) ck.1 (by omega)
      · exact Int.le_refl _
    by_cases e : i = next fs (share fs n)
    · have top := next_drop hs hk
      rw [gi, if_pos e, show (share fs n).getD (next fs (share fs n)) 0 + 1 - 1 = (share fs n).getD (next fs (share fs n)) 0 by omega, e]
      exact Int.le_trans low top
    · rw [gi, if_neg e] at hc ⊢
      exact Int.le_trans low (ih i k hi hk hc)
/-- Counts are stable just if they cost as much as those shared one by one. -/
theorem stable_cost {fs cs : List Int} {n : Nat} (h : sharedB fs cs = true) (hn : (fs.length : Int) + n = cs.sum) : stableB fs cs = decide (tot fs cs = tot fs (share fs n)) := by
  have hfl := flowB_yes (sharedB_yes h).1
  have hle := (sharedB_yes h).2.2.2
  have hs := share_shared (sharedB_yes h).1 n (by omega)
  have hsum : (share fs n).sum = cs.sum := by rw [share_sum (by omega)]; exact hn
  have sc := share_calm (sharedB_yes h).1 n (by omega)
  have l1 := calm_least hs sc h hsum.symm
  rw [Bool.eq_iff_iff, stable_iff h, decide_eq_true_eq]
  constructor
  · intro hc
    have l2 := calm_least h hc hs hsum
    omega
  · intro he
    rcases Classical.em (Calm fs cs) with hc | hc
    · exact hc
    · obtain ⟨ds, d1, d2, d3⟩ := not_calm h hc
      have := calm_least hs sc d1 (by rw [d2, hsum])
      omega
end Go.Proofs.Ytljccbnkibfimaa.Sh
