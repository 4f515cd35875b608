/-
  Sums of parts by longs: what longSum answers.
-/
import Derived.Test.YtmhednkbpniphaaUn
import Derived.Test.YtmhednkbpniphaaSc
import Derived.DeepKeys
namespace Go.Proofs.Ytmhednkbpniphaa
open Go.RowKit

theorem part_int (xs : List Int) (i : Nat) (hi : i < xs.length) (w : World) : (part 3 (lv xs) (i * Try.prog.cellsOf 3)).run Try.prog w = .ok (.int .i64 (xs.getD i 0)) w := by
  have u3 := Try.underlying3
  have a3 := Try.isAgg3
  have z3 := Try.sizeOf3
  have c3 : Try.prog.cellsOf 3 = 1 := by kernel_rfl
  have h : (ints xs)[i]? = some (.int .i64 (xs.getD i 0)) := ints_get xs i hi
  rw [c3, Nat.mul_one]
  have h' : (lv xs)[i]? = some (.int .i64 (xs.getD i 0)) := by simpa [lv] using h
  unfold part
  go_simp
theorem items_same (xs : List Int) (d : Nat) (w : World) : ∀ is : List Nat, (∀ i ∈ is, i < xs.length) → (Op.eqItems (d + 1) 3 (Try.prog.cellsOf 3) (lv xs) (lv xs) is).run Try.prog w = .ok true w
  | [], _ => by simp [Op.eqItems]
  | i :: r, h => by
    have hp := part_int xs i (h i (by simp)) w
    have ih := items_same xs d w r (fun j hj => h j (by simp [hj]))
    have he := run_equalIn_int (P := Try.prog) w d 3 .i64 .i64 (xs.getD i 0) (xs.getD i 0) Try.underlying3
    simp only [Op.eqItems, Sem.run_bind, hp, Result.andThen_ok, he, beq_self_eq_true, Bool.not_true, Bool.false_eq_true, if_false, ih]
theorem long_guard : Try.prog.eqGuardType Try.prog.depth 89 = false := by kernel_rfl
theorem long_neq (xs : List Int) (hx : xs.length = 21) (w : World) : (binOp .neq 89 (.agg (lv xs)) (.agg (lv xs))).run Try.prog w = .ok (.bool false) w := by
  obtain ⟨i, hi⟩ : ∃ i, Try.prog.info? 3 = some i := info_of_underlying Try.underlying3
  rw [run_neq_struct, show (10000 : Nat) = 9999 + 1 from rfl, run_equalIn_array w 9999 (lv xs) (lv xs) Try.underlying89 hi]
  rw [show (9999 : Nat) = 9998 + 1 from rfl, items_same xs 9998 w (List.range 21) (fun i hi => by rw [hx]; simpa using hi)]
  simp
theorem long_neqg (x y : Operand) (xs ys : List Int) (w : World) : (eqGuard .neq 89 x y (.agg (lv xs)) (.agg (lv ys))).run Try.prog w = .ok () w := run_eqGuard_agg w _ _ _ _ _ _ long_guard
theorem lv_zero : (#[.int .i64 0, .int .i64 0, .int .i64 0, .int .i64 0, .int .i64 0, .int .i64 0, .int .i64 0, .int .i64 0, .int .i64 0, .int .i64 0, .int .i64 0, .int .i64 0, .int .i64 0, .int .i64 0, .int .i64 0, .int .i64 0, .int .i64 0, .int .i64 0, .int .i64 0, .int .i64 0, .int .i64 0] : Array Value) = lv (Lg.lng 0) := by kernel_rfl
theorem lng_one_digit {x : Nat} (h : x < Lg.B) : Lg.lng x = (x : Int) :: List.replicate 20 0 := by
  refine (Lg.lng_ext (n := x) rfl fun i hi => ?_).symm
  cases i with
  | zero =>
    have : Lg.dig x 0 = x := by unfold Lg.dig; rw [Nat.pow_zero, Nat.div_one, Nat.mod_eq_of_lt h]
    rw [this]; simp
  | succ j =>
    have : Lg.dig x (j + 1) = 0 := by
      unfold Lg.dig
      have hp : Lg.B ^ 1 ≤ Lg.B ^ (j + 1) := Nat.pow_le_pow_right Lg.B_pos (by omega)
      rw [Nat.pow_one] at hp
      rw [Nat.div_eq_of_lt (by omega)]; simp
    rw [this, List.getD_cons_succ]
    have hj : j < 20 := by omega
    have hz : ∀ j : Fin 20, (List.replicate 20 (0 : Int)).getD j.val 0 = 0 := by decide
    exact hz ⟨j, hj⟩
theorem lv_digit {x : Nat} (h : x < Lg.B) : (#[.int .i64 (x : Int), .int .i64 0, .int .i64 0, .int .i64 0, .int .i64 0, .int .i64 0, .int .i64 0, .int .i64 0, .int .i64 0, .int .i64 0, .int .i64 0, .int .i64 0, .int .i64 0, .int .i64 0, .int .i64 0, .int .i64 0, .int .i64 0, .int .i64 0, .int .i64 0, .int .i64 0, .int .i64 0] : Array Value) = lv (Lg.lng x) := by
  rw [lng_one_digit h]; rfl

/-- A variable of two numbers, 0 both, that may be written. -/
def Res2 (w : World) (b : Nat) : Prop := w.cell? ⟨b, 0, none⟩ = some (.int .i64 0) ∧ w.cell? ⟨b, 1, none⟩ = some (.int .i64 0) ∧ w.frozen? ⟨b, 0, none⟩ = false ∧ w.frozen? ⟨b, 1, none⟩ = false ∧ b < w.heap.size
theorem Res2.turn {w w' : World} {b b' : Nat} (h : Res2 w b) (t : Turn b' w w') (hb : b ≠ b') : Res2 w' b := by
  have e := t.2.2 b hb
  obtain ⟨h0, h1, h2, h3, h4⟩ := h
  exact ⟨(World.cell?_of_block (w := w) (a := ⟨b, 0, none⟩) e).trans h0, (World.cell?_of_block (w := w) (a := ⟨b, 1, none⟩) e).trans h1, (World.frozen?_of_block (w := w) (a := ⟨b, 0, none⟩) e).trans h2, (World.frozen?_of_block (w := w) (a := ⟨b, 1, none⟩) e).trans h3, by rw [t.1]; exact h4⟩
theorem Res2.below {w w' : World} {b : Nat} (h : Res2 w b) (hb : Below w.heap.size w w') : Res2 w' b := by
  obtain ⟨h0, h1, h2, h3, h4⟩ := h
  obtain ⟨hc, hf⟩ := bcell hb
  exact ⟨(hc _ _ h4).trans h0, (hc _ _ h4).trans h1, (hf _ _ h4).trans h2, (hf _ _ h4).trans h3, Nat.lt_of_lt_of_le h4 hb.size⟩
def W2 (w : World) : World := ((w.alloc (.cells #[.int .i64 0, .int .i64 0] 27)).alloc (.cells #[.int .i64 0, .int .i64 0, .int .i64 0, .int .i64 0, .int .i64 0, .int .i64 0, .int .i64 0, .int .i64 0, .int .i64 0, .int .i64 0, .int .i64 0, .int .i64 0, .int .i64 0, .int .i64 0, .int .i64 0, .int .i64 0, .int .i64 0, .int .i64 0, .int .i64 0, .int .i64 0, .int .i64 0] 89)).alloc (.cells #[.int .i64 0, .int .i64 0, .int .i64 0, .int .i64 0, .int .i64 0, .int .i64 0, .int .i64 0, .int .i64 0, .int .i64 0, .int .i64 0, .int .i64 0, .int .i64 0, .int .i64 0, .int .i64 0, .int .i64 0, .int .i64 0, .int .i64 0, .int .i64 0, .int .i64 0, .int .i64 0, .int .i64 0] 89)
theorem W2_one (w : World) : AV (W2 w) (w.heap.size + 1) zs := by
  have h := (zs_new (w.alloc (.cells #[.int .i64 0, .int .i64 0] 27)) 89).below (w' := W2 w) ((Below.refl _ _).alloc (Nat.le_refl _) _)
  simpa using h
theorem W2_two (w : World) : AV (W2 w) (w.heap.size + 1 + 1) zs := by
  have h := zs_new ((w.alloc (.cells #[.int .i64 0, .int .i64 0] 27)).alloc (.cells #[.int .i64 0, .int .i64 0, .int .i64 0, .int .i64 0, .int .i64 0, .int .i64 0, .int .i64 0, .int .i64 0, .int .i64 0, .int .i64 0, .int .i64 0, .int .i64 0, .int .i64 0, .int .i64 0, .int .i64 0, .int .i64 0, .int .i64 0, .int .i64 0, .int .i64 0, .int .i64 0, .int .i64 0] 89)) 89
  have e : ((w.alloc (.cells #[.int .i64 0, .int .i64 0] 27)).alloc (.cells #[.int .i64 0, .int .i64 0, .int .i64 0, .int .i64 0, .int .i64 0, .int .i64 0, .int .i64 0, .int .i64 0, .int .i64 0, .int .i64 0, .int .i64 0, .int .i64 0, .int .i64 0, .int .i64 0, .int .i64 0, .int .i64 0, .int .i64 0, .int .i64 0, .int .i64 0, .int .i64 0, .int .i64 0] 89)).heap.size = w.heap.size + 1 + 1 := by simp
  rw [e] at h
  exact h
theorem W2_res (w : World) : Res2 (W2 w) w.heap.size ∧ Below w.heap.size w (W2 w) := by
  refine ⟨⟨?_, ?_, ?_, ?_, ?_⟩, ((((Below.refl _ _).alloc (Nat.le_refl _) _).alloc (by simp) _).alloc (by simp; omega) _)⟩ <;> simp [W2, go_sem]
theorem frs_at {f : Nat} {ms : List Nat} {k : Nat} (hf : 0 < f) (hk : k < ms.length) : ∃ a b : Nat, (Lg.frs f ms).getD k (0, 0) = ((a : Int), (b : Int)) ∧ 0 < b ∧ b ≤ f ∧ a ≤ ms.getD k 0 ∧ Lg.sumN ((Lg.frs f ms).take (k + 1)) = ((Lg.sumN ((Lg.frs f ms).take k)).1 * b + (Lg.sumN ((Lg.frs f ms).take k)).2 * a, (Lg.sumN ((Lg.frs f ms).take k)).2 * b) ∧ ∀ s, Lg.low ((Lg.frs f ms).take (k + 1)) s = (Lg.fewN (Lg.low ((Lg.frs f ms).take k) s).1 b, (Lg.low ((Lg.frs f ms).take k) s).2 * Lg.fewD (Lg.low ((Lg.frs f ms).take k) s).1 b) := by
  obtain ⟨a, b, e, _, h2, h3, h4, _⟩ := Lg.mk_nat (m := ms.getD k 0) hf
  have hl : k < (Lg.frs f ms).length := by simpa [Lg.frs] using hk
  have he : (Lg.frs f ms).getD k (0, 0) = ((a : Int), (b : Int)) := by
    rw [← e, Pf.getD_lt _ _ hl, Pf.getD_lt _ _ hk]; simp [Lg.frs]
  have ht : (Lg.frs f ms).take (k + 1) = (Lg.frs f ms).take k ++ [((a : Int), (b : Int))] := by
    rw [List.take_succ_eq_append_getElem hl, ← Pf.getD_lt _ (0, 0) hl, he]
  refine ⟨a, b, he, h2, h3, h4, ?_, fun s => ?_⟩
  · rw [ht, Lg.sumN_snoc]; simp
  · rw [ht, Lg.low_snoc]; simp
/-- What stays while the next number is reckoned. -/
def LS (w w' : World) (A D a b : Nat) : Prop := w'.rangeAt (w.heap.size + 1 + 1) 0 (ints (Lg.lng D)) ∧ w'.there (w.heap.size + 1 + 1) 0 21 ∧ w'.there (w.heap.size + 1) 0 21 ∧ w'.cell? ⟨A, 0, none⟩ = some (.int .i64 a) ∧ w'.cell? ⟨A, 1, none⟩ = some (.int .i64 b) ∧ Below w.heap.size w w' ∧ Res2 w' w.heap.size ∧ w.heap.size + 1 + 1 < A ∧ A < w'.heap.size
theorem range_keep {w w' : World} {b : Nat} {cs : List Value} (h : w.rangeAt b 0 cs) (hb : Below w.heap.size w w') (hlt : b < w.heap.size) : w'.rangeAt b 0 cs := fun j v hv => (hb.cell (p := ⟨b, 0 + j, none⟩) hlt).trans (h j v hv)
theorem there_keep {w w' : World} {b n : Nat} (h : w.there b 0 n) (hb : Below w.heap.size w w') (hlt : b < w.heap.size) : w'.there b 0 n := fun j hj => by
  obtain ⟨h1, h2⟩ := h j hj
  exact ⟨by rw [hb.cell (p := ⟨b, 0 + j, none⟩) hlt]; exact h1, by rw [hb.frozen (p := ⟨b, 0 + j, none⟩) hlt]; exact h2⟩
theorem LS.call {w w1 w2 : World} {A D a b : Nat} (h : LS w w1 A D a b) (hb : Below w1.heap.size w1 w2) : LS w w2 A D a b := by
  obtain ⟨h1, h2, h3, h4, h5, h6, h7, h8, h9⟩ := h
  obtain ⟨hc, _⟩ := bcell hb
  exact ⟨range_keep h1 hb (by omega), there_keep h2 hb (by omega), there_keep h3 hb (by omega), (hc _ _ h9).trans h4, (hc _ _ h9).trans h5, h6.trans (hb.mono (by omega)), h7.below hb, h8, Nat.lt_of_lt_of_le h9 hb.size⟩
theorem LS.store {w w1 : World} {A D a b : Nat} {vs : List Value} (h : LS w w1 A D a b) : LS w (w1.setCells (w.heap.size + 1) 0 vs) A D a b := by
  obtain ⟨h1, h2, h3, h4, h5, h6, h7, h8, h9⟩ := h
  have t := turn_cells w1 (w.heap.size + 1) 0 vs
  have e := t.2.2 A (by omega)
  exact ⟨World.rangeAt_setCells_apart h1 _ _ _ (Or.inl (by omega)), World.there_setCells h2 _ _ _, World.there_setCells h3 _ _ _, (World.cell?_of_block (w := w1) (a := ⟨A, 0, none⟩) e).trans h4, (World.cell?_of_block (w := w1) (a := ⟨A, 1, none⟩) e).trans h5, h6.trans (t.2.1 _ (by omega)), h7.turn t (by omega), h8, by rw [t.1]; exact h9⟩
theorem AV.of_range {w : World} {b : Nat} {xs : List Int} (hx : xs.length = 21) (h : w.rangeAt b 0 (ints xs)) (ht : w.there b 0 21) : AV w b xs := by
  refine ⟨hx, ?_, fun i hi => ?_⟩
  · have := (h 0 _ (ints_get xs 0 (by omega)))
    exact World.block_lt_of_cell? w _ this
  · have h1 := h i _ (ints_get xs i (by omega))
    have h2 := (ht i hi).2
    rw [Nat.zero_add] at h1 h2
    exact ⟨h1, h2⟩
theorem LS.after {w w1 : World} {A D a b x : Nat} (h : LS w w1 A D a b) : AV (w1.setCells (w.heap.size + 1) 0 (ints (Lg.lng x))) (w.heap.size + 1) (Lg.lng x) ∧ AV (w1.setCells (w.heap.size + 1) 0 (ints (Lg.lng x))) (w.heap.size + 1 + 1) (Lg.lng D) ∧ LS w (w1.setCells (w.heap.size + 1) 0 (ints (Lg.lng x))) A D a b :=
  ⟨AV.of_range (Lg.lng_len _) (World.rangeAt_setCells_same _ _ _ _ (by rw [ints_len, Lg.lng_len]; exact h.2.2.1)) (World.there_setCells h.2.2.1 _ _ _), AV.of_range (Lg.lng_len _) h.store.1 h.store.2.1, h.store⟩
theorem ls_call {w w1 w2 : World} {A D a b : Nat} (s : w1.rangeAt (w.heap.size + 1 + 1) 0 (ints (Lg.lng D)) ∧ w1.there (w.heap.size + 1 + 1) 0 21 ∧ w1.there (w.heap.size + 1) 0 21 ∧ w1.cell? ⟨A, 0, none⟩ = some (.int .i64 a) ∧ w1.cell? ⟨A, 1, none⟩ = some (.int .i64 b) ∧ Below w.heap.size w w1 ∧ Res2 w1 w.heap.size ∧ w.heap.size + 1 + 1 < A ∧ A < w1.heap.size) (hb : Below w1.heap.size w1 w2) :
    w2.rangeAt (w.heap.size + 1 + 1) 0 (ints (Lg.lng D)) ∧ w2.there (w.heap.size + 1 + 1) 0 21 ∧ w2.there (w.heap.size + 1) 0 21 ∧ w2.cell? ⟨A, 0, none⟩ = some (.int .i64 a) ∧ w2.cell? ⟨A, 1, none⟩ = some (.int .i64 b) ∧ Below w.heap.size w w2 ∧ Res2 w2 w.heap.size ∧ w.heap.size + 1 + 1 < A ∧ A < w2.heap.size := LS.call s hb
theorem ls_store {w w1 : World} {A D a b : Nat} {vs : List Value} (s : w1.rangeAt (w.heap.size + 1 + 1) 0 (ints (Lg.lng D)) ∧ w1.there (w.heap.size + 1 + 1) 0 21 ∧ w1.there (w.heap.size + 1) 0 21 ∧ w1.cell? ⟨A, 0, none⟩ = some (.int .i64 a) ∧ w1.cell? ⟨A, 1, none⟩ = some (.int .i64 b) ∧ Below w.heap.size w w1 ∧ Res2 w1 w.heap.size ∧ w.heap.size + 1 + 1 < A ∧ A < w1.heap.size) :
    (w1.setCells (w.heap.size + 1) 0 vs).rangeAt (w.heap.size + 1 + 1) 0 (ints (Lg.lng D)) ∧ (w1.setCells (w.heap.size + 1) 0 vs).there (w.heap.size + 1 + 1) 0 21 ∧ (w1.setCells (w.heap.size + 1) 0 vs).there (w.heap.size + 1) 0 21 ∧ (w1.setCells (w.heap.size + 1) 0 vs).cell? ⟨A, 0, none⟩ = some (.int .i64 a) ∧ (w1.setCells (w.heap.size + 1) 0 vs).cell? ⟨A, 1, none⟩ = some (.int .i64 b) ∧ Below w.heap.size w (w1.setCells (w.heap.size + 1) 0 vs) ∧ Res2 (w1.setCells (w.heap.size + 1) 0 vs) w.heap.size ∧ w.heap.size + 1 + 1 < A ∧ A < (w1.setCells (w.heap.size + 1) 0 vs).heap.size := LS.store s
theorem num_keep {w w1 w2 : World} {A D a b : Nat} {cs : List Value} (s : w1.rangeAt (w.heap.size + 1 + 1) 0 (ints (Lg.lng D)) ∧ w1.there (w.heap.size + 1 + 1) 0 21 ∧ w1.there (w.heap.size + 1) 0 21 ∧ w1.cell? ⟨A, 0, none⟩ = some (.int .i64 a) ∧ w1.cell? ⟨A, 1, none⟩ = some (.int .i64 b) ∧ Below w.heap.size w w1 ∧ Res2 w1 w.heap.size ∧ w.heap.size + 1 + 1 < A ∧ A < w1.heap.size) (hr : w1.rangeAt (w.heap.size + 1) 0 cs) (hb : Below w1.heap.size w1 w2) : w2.rangeAt (w.heap.size + 1) 0 cs := range_keep hr hb (by omega)
theorem oneI (xs : List Int) : ∀ v ∈ ints xs, v.oneCell' = true := fun v hv => by simp only [ints, List.mem_map] at hv; obtain ⟨x, _, rfl⟩ := hv; rfl
theorem part_small {z : Nat} (h : z ≤ 100) : Fr.partB (z : Int) = true := by unfold Fr.partB; simp; omega
theorem low_nums {y d : Nat} (h : y * d ≤ 100) : wrap64 ((y : Int) * (d : Int)) = ((y * d : Nat) : Int) := by
  have e : (y : Int) * (d : Int) = ((y * d : Nat) : Int) := by simp
  rw [e]; generalize y * d = z at *; exact wrap_id _ (by omega) (by omega)
theorem digit_neq {x : Nat} (h : x < Lg.B) (w : World) : (binOp .neq 89 (.agg (lv (Lg.lng x))) (.agg #[.int .i64 (x : Int), .int .i64 0, .int .i64 0, .int .i64 0, .int .i64 0, .int .i64 0, .int .i64 0, .int .i64 0, .int .i64 0, .int .i64 0, .int .i64 0, .int .i64 0, .int .i64 0, .int .i64 0, .int .i64 0, .int .i64 0, .int .i64 0, .int .i64 0, .int .i64 0, .int .i64 0, .int .i64 0])).run Try.prog w = .ok (.bool false) w := by rw [lv_digit h]; exact long_neq _ (Lg.lng_len _) w
theorem digit_neqg {x : Nat} (h : x < Lg.B) (u v : Operand) (w : World) : (eqGuard .neq 89 u v (.agg (lv (Lg.lng x))) (.agg #[.int .i64 (x : Int), .int .i64 0, .int .i64 0, .int .i64 0, .int .i64 0, .int .i64 0, .int .i64 0, .int .i64 0, .int .i64 0, .int .i64 0, .int .i64 0, .int .i64 0, .int .i64 0, .int .i64 0, .int .i64 0, .int .i64 0, .int .i64 0, .int .i64 0, .int .i64 0, .int .i64 0, .int .i64 0])).run Try.prog w = .ok () w := by rw [lv_digit h]; exact long_neqg _ _ _ _ w
theorem long_bd {ms : List Nat} {n x : Nat} (hn : ms.length = n) (n8 : n ≤ 8) (h : ms.sum ≤ 1000 * ms.length) (hx : x ≤ ms.sum) : x < Lg.B := by
  have : Lg.B = 1000000001 := rfl
  omega
set_option maxRecDepth 100000 in
set_option maxHeartbeats 2000000 in
theorem longSum_any {g n cap f : Nat} {ms : List Nat} {w : World} (hr : Hid (RowAt w g 0 (Lg.frs f ms))) (hn : Hid (ms.length = n)) (hg : g < w.heap.size) (n8 : n ≤ 8) (f0 : 0 < f) (f1 : f ≤ 100) (hm : Hid (∀ k, k < n → ms.getD k 0 ≤ 1000)) :
    Calls Try.prog 84 #[.slice (some ⟨g, 0, none⟩) n cap] w fun e w' => e = .returned (.tuple #[.agg #[.int .i64 (Sh.mk (ms.sum : Int) f).1, .int .i64 (Sh.mk (ms.sum : Int) f).2], .bool true]) ∧ Below w.heap.size w w' := by
  have HA : Hid (AV (W2 w) (w.heap.size + 1) zs) := hide (W2_one w)
  have HB : Hid (AV (W2 w) (w.heap.size + 1 + 1) zs) := hide (W2_two w)
  have HR := hide (W2_res w)
  unfold W2 at HA HB HR
  go_enter Try.func84, Try.ntmps84
  go_wp2_with (first
    | (refine wl_store rfl _ _ rfl rfl (congrArg Value.agg lv_zero) HA (Lg.lng_len _) ?_; intro w3 A3 T3; have HB3 := hide (HB.out.turn T3 (Nat.succ_ne_self _)); have HR3 := hide (HR.out.1.turn T3 (by omega)); have hB3 := HR.out.2.trans (T3.2.1 _ (Nat.le_succ _)); have HA3 := hide A3; clear A3 HA HB T3)
    | (refine wl_store rfl _ _ rfl rfl (congrArg Value.agg (lv_digit (x := 1) (by decide))) HB3 (Lg.lng_len _) ?_; intro w4 A4 T4; have HA4 := hide (HA3.out.turn T4 (Nat.succ_ne_self _).symm); have HR4 := hide (HR3.out.turn T4 (by omega)); have hB4 := hB3.trans (T4.2.1 _ (by omega)); have HB4 := hide A4; clear A4 HA3 HB3 T4 HR3 hB3))
  clear HR
  generalize (Value.agg #[.int .i64 0, .int .i64 0, .int .i64 0, .int .i64 0, .int .i64 0, .int .i64 0, .int .i64 0, .int .i64 0, .int .i64 0, .int .i64 0, .int .i64 0, .int .i64 0, .int .i64 0, .int .i64 0, .int .i64 0, .int .i64 0, .int .i64 0, .int .i64 0, .int .i64 0, .int .i64 0, .int .i64 0]) = v12
  generalize (Value.agg #[.int .i64 1, .int .i64 0, .int .i64 0, .int .i64 0, .int .i64 0, .int .i64 0, .int .i64 0, .int .i64 0, .int .i64 0, .int .i64 0, .int .i64 0, .int .i64 0, .int .i64 0, .int .i64 0, .int .i64 0, .int .i64 0, .int .i64 0, .int .i64 0, .int .i64 0, .int .i64 0, .int .i64 0]) = v13
  go_loopw [7, 16] (fun _ s16 wr => ∃ k : Nat, s16 = .int .i64 k ∧ k ≤ n ∧ Hid (AV wr (w.heap.size + 1) (Lg.lng (Lg.sumN ((Lg.frs f ms).take k)).1)) ∧ Hid (AV wr (w.heap.size + 1 + 1) (Lg.lng (Lg.sumN ((Lg.frs f ms).take k)).2)) ∧ Hid (Res2 wr w.heap.size) ∧ Below w.heap.size w wr) (fun _ s _ => n - (intOf s).toNat)
  case atStart => exact ⟨0, rfl, Nat.zero_le _, HA4, HB4, HR4, hB4⟩
  case round =>
    clear HA4 HB4 HR4 hB4
    obtain ⟨k, rfl, hk, HA, HB, HR, hB⟩ := hrel
    by_cases hlt : k < n
    · obtain ⟨a, b, e1, b0, b1, a1, es, _⟩ := frs_at (f := f) (ms := ms) (k := k) f0 (by rw [hn.out]; exact hlt)
      obtain ⟨r0, r1⟩ := (hr.out.below hB hg) k (by simp [Lg.frs]; rw [hn.out]; exact hlt)
      rw [e1] at r0 r1
      simp only [Nat.zero_add] at r0 r1
      have j0 : (0 : Int) ≤ (k : Int) := by omega
      have j1 : (k : Int) < (n : Int) := by omega
      have a9 : a ≤ 1000000000 := by have := hm.out k hlt; omega
      have b9 : b ≤ 1000000000 := by omega
      have ES := hide es
      have hz2 : w.heap.size + 1 + 1 < wr.heap.size := HB.out.2.1
      clear es e1 a1
      generalize hN : (Lg.sumN ((Lg.frs f ms).take k)).1 = N at *
      generalize hD : (Lg.sumN ((Lg.frs f ms).take k)).2 = D at *
      clear hN hD
      go_wp2_with fail
      generalize hW : wr.alloc (.cells #[.int .i64 (a : Int), .int .i64 (b : Int)] 27) = W at *
      have hbW : Below wr.heap.size wr W := by rw [← hW]; exact (Below.refl _ _).alloc (Nat.le_refl _) _
      have HA1 := hide (HA.out.below hbW)
      have hLS : LS w W wr.heap.size D a b := ⟨(HB.out.below hbW).range, (HB.out.below hbW).there, HA1.out.there, by rw [← hW]; simp, by rw [← hW]; simp, hB.trans (hbW.mono (by omega)), HR.out.below hbW, hz2, by rw [← hW]; simp⟩
      have hRW : W.drew.rangeAt (w.heap.size + 1) 0 (ints (Lg.lng N)) := HA1.out.range
      generalize wr.heap.size = A at *
      clear hW hbW HA HB HR hB HA1 r0 r1
      have u76 : Try.prog.underlying 89 = some (.array 21 3) := Try.underlying89
      have iN : (Try.prog.info? 89).map (·.size) = some (ints (Lg.lng N)).length := by rw [ints_len, Lg.lng_len]; exact infL
      have iD : (Try.prog.info? 89).map (·.size) = some (ints (Lg.lng D)).length := by rw [ints_len, Lg.lng_len]; exact infL
      have iX : (Try.prog.info? 89).map (·.size) = some (ints (Lg.lng (N * b + D * a))).length := by rw [ints_len, Lg.lng_len]; exact infL
      have lX : (ints (Lg.lng (N * b + D * a))).length = 21 := by rw [ints_len, Lg.lng_len]
      have oX := oneI (Lg.lng (N * b + D * a))
      refine wp_region_noPanic ?_
      refine wp_region_held_drew (S := fun w' => w'.rangeAt (w.heap.size + 1 + 1) 0 (ints (Lg.lng D)) ∧ w'.there (w.heap.size + 1 + 1) 0 21 ∧ w'.there (w.heap.size + 1) 0 21 ∧ w'.cell? ⟨A, 0, none⟩ = some (.int .i64 a) ∧ w'.cell? ⟨A, 1, none⟩ = some (.int .i64 b) ∧ Below w.heap.size w w' ∧ Res2 w' w.heap.size ∧ w.heap.size + 1 + 1 < A ∧ A < w'.heap.size) (by kernel_rfl) (LS.call hLS (Below.refl _ _).drew) (fun hHeld => ?_)
      refine wpAnyH_take (i := 1) (oi := ⟨some 21, _, _, _, _, none⟩) (v := .pointer (some ⟨A, 1, none⟩)) rfl (by kernel_rfl) (by kernel_rfl) (by kernel_rfl) (fun _ _ _ h => h) (Or.inl ⟨by rfl, fun w' hSw => by obtain ⟨_, _, _, y1, y2, _⟩ := hSw; go_simp⟩) hHeld ?_
      simp only [Act.put, List.setIfInBounds_toArray, List.set_cons_zero, List.set_cons_succ]
      refine wpAnyH_take (i := 2) (oi := ⟨some 22, _, _, _, _, none⟩) (v := .int .i64 (b : Int)) rfl (by kernel_rfl) (by kernel_rfl) (by kernel_rfl) (fun _ _ _ h => h) (Or.inl ⟨by rfl, fun w' hSw => by obtain ⟨_, _, _, y1, y2, _⟩ := hSw; go_simp⟩) hHeld ?_
      simp only [Act.put, List.setIfInBounds_toArray, List.set_cons_zero, List.set_cons_succ]
      refine wpAnyH_take (i := 4) (oi := ⟨some 24, _, _, _, _, none⟩) (v := .agg (lv (Lg.lng D))) rfl (by kernel_rfl) (by kernel_rfl) (by kernel_rfl) (fun _ _ _ h => h) (yieldsIf_load_mid (by rfl) _ _ rfl _ _ rfl (ints (Lg.lng D)) _ (fun w' h => h.1) u76 rfl iD) hHeld ?_
      simp only [Act.put, List.setIfInBounds_toArray, List.set_cons_zero, List.set_cons_succ]
      refine wpAnyH_take (i := 5) (oi := ⟨some 25, _, _, _, _, none⟩) (v := .pointer (some ⟨A, 0, none⟩)) rfl (by kernel_rfl) (by kernel_rfl) (by kernel_rfl) (fun _ _ _ h => h) (Or.inl ⟨by rfl, fun w' hSw => by obtain ⟨_, _, _, y1, y2, _⟩ := hSw; go_simp⟩) hHeld ?_
      simp only [Act.put, List.setIfInBounds_toArray, List.set_cons_zero, List.set_cons_succ]
      refine wpAnyH_take (i := 6) (oi := ⟨some 26, _, _, _, _, none⟩) (v := .int .i64 (a : Int)) rfl (by kernel_rfl) (by kernel_rfl) (by kernel_rfl) (fun _ _ _ h => h) (Or.inl ⟨by rfl, fun w' hSw => by obtain ⟨_, _, _, y1, y2, _⟩ := hSw; go_simp⟩) hHeld ?_
      simp only [Act.put, List.setIfInBounds_toArray, List.set_cons_zero, List.set_cons_succ]
      refine wpAnyH_ready (rs := [0]) (by kernel_rfl) (by simp) ?_
      refine AllReadyH.cons (o := ⟨some 20, _, _, _, _, none⟩) rfl (fun K hK => ?_) AllReadyH.nil
      rw [if_pos (by rfl)]
      refine wp_load_mid _ _ rfl _ _ rfl (ints (Lg.lng N)) _ hRW u76 rfl iN ?_
      refine hK.out _ _ hHeld (fun hHeld => ?_)
      clear hK K
      simp only [Act.put, List.setIfInBounds_toArray, List.set_cons_zero, List.set_cons_succ]
      refine wpAnyH_ready (rs := [3]) (by kernel_rfl) (by simp) ?_
      refine AllReadyH.cons (o := ⟨some 23, _, _, _, _, none⟩) rfl (fun K hK => ?_) AllReadyH.nil
      go_simp
      refine (times_any N b _ b9).mono ?_
      rintro e w5 ⟨rfl, hb5⟩
      refine hK.out _ _ (ls_call hHeld hb5) (fun hHeld => ?_)
      clear hK K hRW hb5 hLS
      refine wpAnyH_ready (rs := [7]) (by kernel_rfl) (by simp) ?_
      refine AllReadyH.cons (o := ⟨some 27, _, _, _, _, none⟩) rfl (fun K hK => ?_) AllReadyH.nil
      go_simp
      refine (times_any D a _ a9).mono ?_
      rintro e w6 ⟨rfl, hb6⟩
      refine hK.out _ _ (ls_call hHeld hb6) (fun hHeld => ?_)
      clear hK K hb6
      refine wpAnyH_ready (rs := [8]) (by kernel_rfl) (by simp) ?_
      refine AllReadyH.cons (o := ⟨some 28, _, _, _, _, none⟩) rfl (fun K hK => ?_) AllReadyH.nil
      go_simp
      refine (plus_any (N * b) (D * a) _).mono ?_
      rintro e w7 ⟨rfl, hb7⟩
      refine hK.out _ _ (ls_call hHeld hb7) (fun hHeld => ?_)
      clear hK K hb7
      refine wpAnyH_ready (rs := [9]) (by kernel_rfl) (by simp) ?_
      refine AllReadyH.cons (o := ⟨none, _, _, _, _, none⟩) rfl (fun K hK => ?_) AllReadyH.nil
      rw [if_pos (by rfl)]
      refine wp_store_mid _ _ _ rfl _ _ (lv (Lg.lng (N * b + D * a))) rfl rfl ?_ ?_ (all_oneCell_toArray oX) ?_
      · rw [show (lv (Lg.lng (N * b + D * a))).size = 21 by simp [lv, lX]]; exact hHeld.2.2.1
      · rw [show (lv (Lg.lng (N * b + D * a))).size = 21 by simp [lv, lX]]; exact infL
      rw [show (lv (Lg.lng (N * b + D * a))).toList = ints (Lg.lng (N * b + D * a)) by simp [lv]]
      refine hK.out _ _ (ls_store hHeld) (fun hHeld2 => ?_)
      clear hK K
      refine wpAnyH_done (by kernel_rfl) ?_ _
      refine NoPanic.normal ?_
      simp only [Act.put]
      obtain ⟨A7, B7, L7⟩ := LS.after (x := N * b + D * a) hHeld
      generalize w7.setCells (w.heap.size + 1) 0 (ints (Lg.lng (N * b + D * a))) = w8 at *
      have HA8 := hide A7
      have HB8 := hide B7
      have HL8 := hide L7
      obtain ⟨_, _, _, c80, c81, hB8, hR8, _, hA8⟩ := HL8.out
      clear A7 B7 L7 hHeld hHeld2 u76 iN iD iX lX oX
      go_wp2_with (first | (refine wl_load rfl _ rfl rfl HB8 ?_))
      refine (times_any D b _ b9).mono ?_
      rintro e w9 ⟨rfl, hb9⟩
      have HA9 := hide (HA8.out.below hb9)
      have HB9 := hide (HB8.out.below hb9)
      have HR9 := hide (hR8.below hb9)
      have hB9 := hB8.trans (hb9.mono (by omega))
      clear HA8 HB8 hB8 hR8 hb9 HL8 c80 c81
      go_wp2_with (first | (refine wl_store rfl _ _ rfl rfl rfl HB9 (Lg.lng_len _) ?_; intro w10 A10 T10; have HA10 := hide (HA9.out.turn T10 (Nat.succ_ne_self _).symm); have HR10 := hide (HR9.out.turn T10 (by omega)); have hB10 := hB9.trans (T10.2.1 _ (by omega)); have HB10 := hide A10; clear A10 HA9 HB9 HR9 hB9 T10))
      go_roundw
      case rel => exact ⟨k + 1, by go_num, by omega, by rw [ES.out]; exact HA10, by rw [ES.out]; exact HB10, HR10, hB10⟩
      case measure => simp only [intOf]; omega
    · have hke : k = n := by omega
      subst hke
      have HT : Hid ((Lg.frs f ms).take k = Lg.frs f ms) := hide (by rw [List.take_of_length_le]; simp [Lg.frs]; rw [hn.out]; exact Nat.le_refl _)
      rw [HT.out] at HA HB
      have HI := hide (Lg.low_start f0 ms)
      have HSM := hide (Lg.sum_small f0 f1 (fun k hk => hm.out k (by rw [← hn.out]; exact hk)) (by rw [hn.out]; exact n8))
      have HFI := hide (Lg.low_final f0 ms)
      have HSU := hide (Lg.sum_le_many ms (fun k hk => hm.out k (by rw [← hn.out]; exact hk)))
      generalize hN : (Lg.sumN (Lg.frs f ms)).1 = N at *
      clear hN HB
      go_wp2_with fail
      go_loopw [3, 8, 10, 11, 36] (fun s3 s8 _ _ s36 wr => ∃ j : Nat, s3 = .bool false ∧ s8 = .int .i64 ((Lg.low ((Lg.frs f ms).take j) (N, 1)).2 : Nat) ∧ s36 = .int .i64 j ∧ j ≤ k ∧ Hid (AV wr (w.heap.size + 1) (Lg.lng (Lg.low ((Lg.frs f ms).take j) (N, 1)).1)) ∧ Hid (Res2 wr w.heap.size) ∧ Below w.heap.size w wr) (fun _ _ _ _ s _ => k - (intOf s).toNat)
      case atStart => exact ⟨0, rfl, rfl, rfl, Nat.zero_le _, HA, HR, hB⟩
      case round =>
        clear HA HR hB
        obtain ⟨j, rfl, rfl, rfl, hj, HA, HR, hB⟩ := hrel
        by_cases hlt : j < k
        · obtain ⟨a, b, e1, b0, b1, a1, _, el⟩ := frs_at (f := f) (ms := ms) (k := j) f0 (by rw [hn.out]; exact hlt)
          obtain ⟨r0, r1⟩ := (hr.out.below hB hg) j (by simp [Lg.frs]; rw [hn.out]; exact hlt)
          rw [e1] at r0 r1
          simp only [Nat.zero_add] at r0 r1
          have j0 : (0 : Int) ≤ (j : Int) := by omega
          have j1 : (j : Int) < (k : Int) := by omega
          have b9 : b ≤ 1000000000 := by omega
          have EL := hide (el (N, 1))
          have HW := hide (HI.out (j + 1))
          have HX := hide (HI.out j)
          rw [EL.out] at HW
          clear e1 a1 el
          generalize hx : (Lg.low ((Lg.frs f ms).take j) (N, 1)).1 = X at *
          generalize hy : (Lg.low ((Lg.frs f ms).take j) (N, 1)).2 = Y at *
          clear hx hy
          have hy0 : Y ≤ 100 := Nat.le_trans HX.out.1 f1
          have hy1 : Y * Lg.fewD X b ≤ 100 := Nat.le_trans HW.out.1 f1
          have HBG := hide (Nat.lt_of_le_of_lt HX.out.2 HSM.out)
          have hz1 : w.heap.size + 1 < wr.heap.size := HA.out.2.1
          have hbW : ∀ o, Below wr.heap.size wr (wr.alloc o) := fun o => (Below.refl _ _).alloc (Nat.le_refl _) o
          have HA1 := hide (HA.out.below (hbW (.cells #[.int .i64 (a : Int), .int .i64 (b : Int)] 27)))
          have HR1 := hide (HR.out.below (hbW (.cells #[.int .i64 (a : Int), .int .i64 (b : Int)] 27)))
          have hB1 := hB.trans ((hbW (.cells #[.int .i64 (a : Int), .int .i64 (b : Int)] 27)).mono (by omega))
          clear hbW HA HR hB
          go_wp2_with (first | (refine wl_load rfl _ rfl rfl HA1 ?_))
          refine (without_any X b _ HBG.out b0 b9).mono ?_
          rintro e w5 ⟨rfl, hb5⟩
          have HA5 := hide (HA1.out.below hb5)
          have HR5 := hide (HR1.out.below hb5)
          have hB5 := hB1.trans (hb5.mono (by simp; omega))
          have m1 := low_nums hy1
          have hpb := part_small hy1
          generalize hZ : Y * Lg.fewD X b = Z at *
          have HPB := hide hpb
          clear HA1 HR1 hB1 hb5 r0 r1 hZ hpb
          go_wp2_with (first | (refine wl_store rfl _ _ rfl rfl rfl HA5 (Lg.lng_len _) ?_; intro w6 A6 T6; have HR6 := hide (HR5.out.turn T6 (by omega)); have hB6 := hB5.trans (T6.2.1 _ (by omega)); have HA6 := hide A6; clear A6 HA5 HR5 hB5 T6))
          have hip := isPart_any (Z : Int) w6
          rw [HPB.out] at hip
          refine hip.mono ?_
          rintro e w7 ⟨rfl, rfl⟩
          go_wp2_with fail
          go_roundw
          case rel => exact ⟨j + 1, rfl, by rw [EL.out], by go_num, by omega, by rw [EL.out]; exact HA6, HR6, hB6⟩
          case measure => simp only [intOf]; omega
        · have hjk : j = k := by omega
          subst hjk
          rw [HT.out] at HA
          rw [HT.out]
          have hXB := long_bd hn.out n8 HSU.out HFI.out.2
          generalize (Lg.low (Lg.frs f ms) (N, 1)).1 = X at *
          generalize (Lg.low (Lg.frs f ms) (N, 1)).2 = Y at *
          have hd : (Lg.lng X).getD 0 0 = (X : Int) := by rw [lng_one_digit hXB]; rfl
          have c0 := (HA.out.2.2 0 (by decide)).1
          rw [hd] at c0
          have hng := fun u v w => digit_neqg hXB u v w
          have hnq := fun w => digit_neq hXB w
          clear hd hXB HI HSM HSU HT
          obtain ⟨z0, z1, z2, z3, z4⟩ := HR.out
          go_wp2_with (first | (refine wl_load rfl _ rfl rfl HA ?_))
          refine bodyPost_ret (v := .tuple #[.agg #[.int .i64 (X : Int), .int .i64 (Y : Int)], .bool true]) (by simp [results, Try.results84, go_sem, *]) rfl ⟨by rw [HFI.out.1], (hB.setCell (Nat.le_refl _) _).setCell (Nat.le_refl _) _⟩
end Go.Proofs.Ytmhednkbpniphaa
