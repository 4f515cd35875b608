/-
  Plain facts, of no program: a list that grows by what is come to, and what it holds in the end.
-/
import Derived.Test.YtfmdahpldjkifaaJb
namespace Go.Proofs.Ytfmdahpldjkifaa.Ma

/-- The loads without a bin among the first k. -/
def ul (m : List Int) (k : Nat) : List Int := ((List.range k).filter fun i => m.getD i 0 == -1).map fun (i : Nat) => (i : Int)
theorem ul_step (m : List Int) (k : Nat) : ul m (k + 1) = if m.getD k 0 == -1 then ul m k ++ [(k : Int)] else ul m k := by
  unfold ul
  rw [List.range_succ, List.filter_append, List.map_append]
  split <;> rename_i h
  · simp only [List.filter_cons, h, if_true, List.filter_nil]; rfl
  · simp only [List.filter_cons, h]; simp
theorem mem_ul {m : List Int} {k : Nat} {x : Int} : x ∈ ul m k ↔ ∃ i : Nat, i < k ∧ m.getD i 0 = -1 ∧ x = (i : Int) := by
  simp only [ul, List.mem_map, List.mem_filter, List.mem_range, beq_iff_eq]
  constructor
  · rintro ⟨i, ⟨h1, h2⟩, rfl⟩; exact ⟨i, h1, h2, rfl⟩
  · rintro ⟨i, h1, h2, rfl⟩; exact ⟨i, ⟨h1, h2⟩, rfl⟩
theorem ul_nodup (m : List Int) (k : Nat) : (ul m k).Nodup := by
  unfold ul
  have h : ((List.range k).filter fun i => m.getD i 0 == -1).Pairwise (· ≠ ·) := List.Pairwise.filter _ (List.nodup_range)
  exact List.pairwise_map.2 (h.imp fun h => by omega)
def cast8 (l : List Nat) : List Int := l.map fun (b : Nat) => (b : Int)
theorem cast8_snoc (l : List Nat) (b : Nat) : cast8 (l ++ [b]) = cast8 l ++ [(b : Int)] := by simp [cast8]
theorem cast8_has (l : List Nat) (b : Nat) : (cast8 l).contains (b : Int) = decide (b ∈ l) := by
  rw [List.contains_eq_mem]
  congr 1
  simp only [cast8, List.mem_map, eq_iff_iff]
  constructor
  · rintro ⟨c, h, e⟩; have : c = b := by omega
    subst this; exact h
  · exact fun h => ⟨b, h, rfl⟩
structure Bf (F : List (List Bool)) (m own : List Int) (L : List Int) (Bl : List Nat) : Prop where
  eq : L = ul m F.length ++ Bl.map fun b => own.getD b (-1)
  nd : Bl.Nodup
  rb : ∀ b ∈ Bl, b < bins F ∧ (rB F m).getD b false = true
theorem bf_start (F : List (List Bool)) (m own : List Int) : Bf F m own (ul m F.length) [] := ⟨by simp, by simp, by simp⟩
theorem Bf.nat {F : List (List Bool)} {m own L : List Int} {Bl : List Nat} (hI : Inv F F.length m own) (h : Bf F m own L Bl) {x : Int} (hx : x ∈ L) : ∃ l : Nat, l < F.length ∧ x = (l : Int) ∧ (rL F m).getD l false = true := by
  rw [h.eq] at hx
  rcases List.mem_append.1 hx with hx | hx
  · obtain ⟨i, h1, h2, rfl⟩ := mem_ul.1 hx
    refine ⟨i, h1, rfl, (shut_r F m i h1).1 ?_⟩
    have : i < m.length := by rw [hI.mo.lm]; exact h1
    rw [← h2]; simp [this]
  · obtain ⟨b, hb, rfl⟩ := List.mem_map.1 hx
    obtain ⟨h1, h2⟩ := h.rb b hb
    obtain ⟨l, h3, h4, h5⟩ := hI.owned h1 h2
    exact ⟨l, h3, h4, ((shut_r F m l h3).2 b h1).2 h2 h5⟩
theorem Bf.nodup {F : List (List Bool)} {m own L : List Int} {Bl : List Nat} (hI : Inv F F.length m own) (h : Bf F m own L Bl) : L.Nodup := by
  rw [h.eq, List.nodup_append]
  refine ⟨ul_nodup _ _, ?_, fun x hx y hy => ?_⟩
  · refine List.pairwise_map.2 (List.Pairwise.imp_of_mem (R := (· ≠ ·)) (fun {a b} ha hb hne e => hne ?_) h.nd)
    obtain ⟨a1, a2⟩ := h.rb a ha
    obtain ⟨b1, b2⟩ := h.rb b hb
    obtain ⟨l, h3, h4, h5⟩ := hI.owned a1 a2
    obtain ⟨l', h3', h4', h5'⟩ := hI.owned b1 b2
    have : l = l' := by omega
    subst this; omega
  · rintro rfl
    obtain ⟨i, h1, h2, e⟩ := mem_ul.1 hx
    obtain ⟨b, hb, e2⟩ := List.mem_map.1 hy
    obtain ⟨b1, b2⟩ := h.rb b hb
    obtain ⟨l, h3, h4, h5⟩ := hI.owned b1 b2
    have e3 : l = i := by omega
    subst e3
    have : l < m.length := by rw [hI.mo.lm]; exact h3
    have e4 : m.getD l 0 = m.getD l (-1) := by simp [this]
    omega
theorem Bf.len {F : List (List Bool)} {m own L : List Int} {Bl : List Nat} (hI : Inv F F.length m own) (h : Bf F m own L Bl) : L.length ≤ F.length := by
  have := List.Nodup.length_le_of_subset (h.nodup hI) (l₂ := cast8 (List.range F.length)) fun x hx => by
    obtain ⟨l, h1, rfl, _⟩ := h.nat hI hx
    exact List.mem_map.2 ⟨l, by simpa using h1, rfl⟩
  simpa [cast8] using this
theorem Bf.blen {F : List (List Bool)} {m own L : List Int} {Bl : List Nat} (h : Bf F m own L Bl) : Bl.length ≤ bins F := by
  have := List.Nodup.length_le_of_subset h.nd (l₂ := List.range (bins F)) fun x hx => by simpa using (h.rb x hx).1
  simpa using this
theorem Bf.push {F : List (List Bool)} {m own L : List Int} {Bl : List Nat} (hI : Inv F F.length m own) (h : Bf F m own L Bl) {q b : Nat} (hq : (q : Int) ∈ L) (hb : b < bins F) (hf : fit F q b = true) (hn : b ∉ Bl) : Bf F m own (L ++ [own.getD b (-1)]) (Bl ++ [b]) := by
  obtain ⟨l, h1, h2, h3⟩ := h.nat hI hq
  have : q = l := by omega
  subst this
  refine ⟨by rw [h.eq]; simp, ?_, fun c hc => ?_⟩
  · rw [List.nodup_append]
    refine ⟨h.nd, by simp, fun x hx y hy e => ?_⟩
    simp at hy; subst hy; subst e; exact hn hx
  · rcases List.mem_append.1 hc with hc | hc
    · exact h.rb c hc
    · simp at hc; subst hc
      exact ⟨hb, ((shut_r F m q h1).2 c hb).1 h3 hf⟩
/-- Where all is gone through nothing else is come to. -/
theorem Bf.fin {F : List (List Bool)} {m own L : List Int} {Bl : List Nat} (hI : Inv F F.length m own) (h : Bf F m own L Bl) (hp : ∀ q : Nat, (q : Int) ∈ L → ∀ b, b < bins F → fit F q b = true → b ∈ Bl) :
    (∀ x, x ∈ L ↔ x ∈ those (rL F m) true) ∧ ∀ x, x ∈ cast8 Bl ↔ x ∈ those (rB F m) true := by
  obtain ⟨A, hA⟩ : ∃ A : List Bool, A = (List.range F.length).map fun (l : Nat) => L.contains (l : Int) := ⟨_, rfl⟩
  obtain ⟨B, hB⟩ : ∃ B : List Bool, B = (List.range (bins F)).map fun b => decide (b ∈ Bl) := ⟨_, rfl⟩
  have gA : ∀ l, l < F.length → (A.getD l false = true ↔ (l : Int) ∈ L) := fun l hl => by rw [hA]; simp [hl]
  have gB : ∀ b, b < bins F → (B.getD b false = true ↔ b ∈ Bl) := fun b hb => by rw [hB]; simp [hb]
  have hC : Come F m A B := ⟨by rw [hA]; simp, by rw [hB]; simp, fun l hl e => by
    obtain ⟨l', h1, h2, h3⟩ := h.nat hI ((gA l hl).1 e)
    have : l = l' := by omega
    subst this; exact h3, fun b hb e => (h.rb b ((gB b hb).1 e)).2⟩
  have hS : Shut F m A B := fun l hl => by
    refine ⟨fun e => (gA l hl).2 ?_, fun b hb => ⟨fun e1 e2 => (gB b hb).2 (hp l ((gA l hl).1 e1) b hb e2), fun e1 e2 => (gA l hl).2 ?_⟩⟩
    · rw [h.eq]
      refine List.mem_append_left _ (mem_ul.2 ⟨l, hl, ?_, rfl⟩)
      have : l < m.length := by rw [hI.mo.lm]; exact hl
      rw [← e]; simp [this]
    · rw [h.eq]
      exact List.mem_append_right _ (List.mem_map.2 ⟨b, (gB b hb).1 e1, hI.mo.mo l b hl hb e2⟩)
  obtain ⟨e1, e2⟩ := come_eq hC hS
  refine ⟨fun x => ⟨fun hx => ?_, fun hx => ?_⟩, fun x => ⟨fun hx => ?_, fun hx => ?_⟩⟩
  · obtain ⟨l, h1, rfl, h3⟩ := h.nat hI hx
    exact mem_those.2 ⟨l, by rw [rL_len]; exact h1, h3, rfl⟩
  · obtain ⟨l, h1, h2, rfl⟩ := mem_those.1 hx
    rw [rL_len] at h1
    rw [← e1] at h2
    exact (gA l h1).1 h2
  · obtain ⟨b, hb, rfl⟩ := List.mem_map.1 hx
    obtain ⟨h1, h2⟩ := h.rb b hb
    exact mem_those.2 ⟨b, by rw [rB_len]; exact h1, h2, rfl⟩
  · obtain ⟨b, h1, h2, rfl⟩ := mem_those.1 hx
    rw [rB_len] at h1
    rw [← e2] at h2
    exact List.mem_map.2 ⟨b, (gB b h1).1 h2, rfl⟩
/-- What is sorted is told by what is in it. -/
theorem sort_eq {L X : List Int} (hn : L.Nodup) (hX : X.Pairwise (· < ·)) (h : ∀ x, x ∈ L ↔ x ∈ X) : (L.mergeSort fun x y => decide (x ≤ y)) = X := by
  have hp := List.mergeSort_perm L fun x y => decide (x ≤ y)
  have hs := List.pairwise_mergeSort (le := fun x y : Int => decide (x ≤ y)) (fun a b c h1 h2 => by simp at *; omega) (fun a b => by simp; omega) L
  have hnd : (L.mergeSort fun x y => decide (x ≤ y)).Nodup := hp.nodup_iff.2 hn
  refine rise_ext ?_ hX fun x => (hp.mem_iff).trans (h x)
  exact (List.Pairwise.and hs hnd).imp fun {a b} hh => by have := hh.1; simp at this; have := hh.2; omega
theorem cast8_nodup {l : List Nat} (h : l.Nodup) : (cast8 l).Nodup := List.pairwise_map.2 (h.imp fun h => by omega)
end Go.Proofs.Ytfmdahpldjkifaa.Ma
