/-
  A number by digits in a variable; what the methods of such numbers answer.
-/
import Derived.Test.YtmhednkbpniphaaUl
import Derived.Test.YtmhednkbpniphaaXi
import Derived.Test.YtmhednkbpniphaaBase
import Derived.Deep.MidRow
import Derived.Deep.WholeRow
import Derived.Laws.ResultCell
namespace Go.Proofs.Ytmhednkbpniphaa
open Go.RowKit

def lv (xs : List Int) : Array Value := (ints xs).toArray
theorem infL : (Try.prog.info? 89).map (·.size) = some 21 := by kernel_rfl
/-- A list of 21 numbers in a variable of its own. -/
def AV (w : World) (b : Nat) (xs : List Int) : Prop := xs.length = 21 ∧ b < w.heap.size ∧ ∀ i, i < 21 → w.cell? ⟨b, i, none⟩ = some (.int .i64 (xs.getD i 0)) ∧ w.frozen? ⟨b, i, none⟩ = false
theorem AV.new (w : World) (xs : List Int) (hx : xs.length = 21) (t : TypeId) : AV (w.alloc (.cells (lv xs) t)) w.heap.size xs := by
  have h := heap_alloc_last w (.cells (lv xs) t)
  refine ⟨hx, by simp, fun i hi => ⟨?_, by unfold World.frozen?; rw [h]; simp⟩⟩
  have : (ints xs)[i]? = some (.int .i64 (xs.getD i 0)) := ints_get xs i (by omega)
  rw [cell_of_row _ _ _ _ _ _ h, lv]
  simpa using this
theorem AV.below {w w' : World} {b : Nat} {xs : List Int} (h : AV w b xs) (hb : Below w.heap.size w w') : AV w' b xs :=
  ⟨h.1, Nat.lt_of_lt_of_le h.2.1 hb.size, fun i hi => ⟨(hb.cell (p := ⟨b, i, none⟩) h.2.1).trans (h.2.2 i hi).1, (hb.frozen (p := ⟨b, i, none⟩) h.2.1).trans (h.2.2 i hi).2⟩⟩
theorem AV.range {w : World} {b : Nat} {xs : List Int} (h : AV w b xs) : w.rangeAt b 0 (ints xs) := fun j v hv => by
  have hj : j < xs.length := by have := (List.getElem?_eq_some_iff.1 hv).1; rwa [ints_len] at this
  rw [Nat.zero_add, (h.2.2 j (by have := h.1; omega)).1, ← hv, ints_get xs j hj]
theorem AV.there {w : World} {b : Nat} {xs : List Int} (h : AV w b xs) : w.there b 0 21 := fun j hj => by
  rw [Nat.zero_add]
  exact ⟨by rw [(h.2.2 j hj).1]; rfl, (h.2.2 j hj).2⟩
theorem AV.loads {w : World} {b : Nat} {xs : List Int} (h : AV w b xs) : (Instr.loadAt 89 (.pointer (some ⟨b, 0, none⟩))).run Try.prog w = .ok (.agg (lv xs)) w :=
  run_loadAt_mid w b 0 89 (ints xs) _ h.range Try.underlying89 rfl (by rw [ints_len, h.1]; exact infL)
theorem AV.set {w : World} {b : Nat} {xs : List Int} (h : AV w b xs) (k : Nat) (x : Int) (hk : k < 21) : AV (w.setCell ⟨b, k, none⟩ (.int .i64 x)) b (xs.set k x) := by
  refine ⟨by simpa using h.1, by simpa using h.2.1, fun i hi => ⟨?_, by simpa using (h.2.2 i hi).2⟩⟩
  rw [Sh.set_get _ _ _ _ (by have := h.1; omega)]
  by_cases e : i = k
  · subst e; rw [if_pos rfl]; exact World.cell?_setCell_same _ _ _ (h.2.2 i hi).1
  · rw [if_neg e, World.cell?_setCell_other _ _ _ _ (by intro h; cases h; exact e rfl)]; exact (h.2.2 i hi).1
theorem AV.stores {w : World} {b : Nat} {xs ys : List Int} (h : AV w b xs) (hy : ys.length = 21) : (Instr.storeAt 89 (.pointer (some ⟨b, 0, none⟩)) (.agg (lv ys))).run Try.prog w = .ok () (w.setCells b 0 (ints ys)) :=
  run_storeAt_mid w b 0 89 (lv ys) (by rw [show (lv ys).size = 21 by simp [lv, ints_len, hy]]; exact h.there) (by rw [show (lv ys).size = 21 by simp [lv, ints_len, hy]]; exact infL) (all_oneCell_toArray (fun v hv => by simp only [ints, List.mem_map] at hv; obtain ⟨x, _, rfl⟩ := hv; rfl))
theorem AV.stored {w : World} {b : Nat} {xs ys : List Int} (h : AV w b xs) (hy : ys.length = 21) : AV (w.setCells b 0 (ints ys)) b ys := by
  have hs : (w.setCells b 0 (ints ys)).heap.size = w.heap.size := by
    have : ∀ (vs : List Value) (o : Nat) (w : World), (w.setCells b o vs).heap.size = w.heap.size := by
      intro vs
      induction vs with
      | nil => intro o w; rfl
      | cons v r ih => intro o w; rw [World.setCells, ih]; simp
    exact this _ _ _
  refine ⟨hy, by rw [hs]; exact h.2.1, fun i hi => ⟨?_, by rw [World.frozen?_setCells]; exact (h.2.2 i hi).2⟩⟩
  have := World.rangeAt_setCells_same w b 0 (ints ys) (by rw [ints_len, hy]; exact h.there) i _ (ints_get ys i (by omega))
  rwa [Nat.zero_add] at this
theorem below_cells {w : World} {k b : Nat} (h : k ≤ b) (vs : List Value) (o : Nat) : Below k w (w.setCells b o vs) := by
  induction vs generalizing o w with
  | nil => exact Below.refl _ _
  | cons v r ih => rw [World.setCells]; exact ((Below.refl k w).setCell (p := ⟨b, o, none⟩) h v).trans (ih _)

theorem AV.loadVar {w : World} {b : Nat} {xs : List Int} (h : AV w b xs) : (loadVar 89 ⟨b, 0, none⟩).run Try.prog w = .ok (.agg (lv xs)) w :=
  run_loadVar_mid w b 0 89 (ints xs) _ h.range Try.underlying89 rfl (by rw [ints_len, h.1]; exact infL)
theorem AV.other {w : World} {b b' k : Nat} {v : Value} {xs : List Int} (h : AV w b xs) (hb : b ≠ b') : AV (w.setCell ⟨b', k, none⟩ v) b xs :=
  ⟨h.1, by simpa using h.2.1, fun i hi => ⟨by rw [World.cell?_setCell_other _ _ _ _ (by intro e; cases e; exact hb rfl)]; exact (h.2.2 i hi).1, by simpa using (h.2.2 i hi).2⟩⟩
def zs : List Int := List.replicate 21 0
theorem zs_new (w : World) (t : TypeId) : AV (w.alloc (.cells #[.int .i64 0, .int .i64 0, .int .i64 0, .int .i64 0, .int .i64 0, .int .i64 0, .int .i64 0, .int .i64 0, .int .i64 0, .int .i64 0, .int .i64 0, .int .i64 0, .int .i64 0, .int .i64 0, .int .i64 0, .int .i64 0, .int .i64 0, .int .i64 0, .int .i64 0, .int .i64 0, .int .i64 0] t)) w.heap.size zs := AV.new w zs rfl t

/-- But for one variable all is as it was. -/
def Turn (b : Nat) (w w' : World) : Prop := w'.heap.size = w.heap.size ∧ (∀ k, k ≤ b → Below k w w') ∧ ∀ g, g ≠ b → w'.heap[g]? = w.heap[g]?
theorem turn_cells (w : World) (b o : Nat) (vs : List Value) : Turn b w (w.setCells b o vs) := by
  refine ⟨?_, fun k hk => below_cells hk vs o, ?_⟩
  · induction vs generalizing o w with
    | nil => rfl
    | cons v r ih => rw [World.setCells, ih]; simp
  · intro g hg
    induction vs generalizing o w with
    | nil => rfl
    | cons v r ih =>
      rw [World.setCells, ih]
      exact Below.heap_setCell _ _ _ _ (by simpa using hg)
theorem AV.turn {w w' : World} {b b' : Nat} {xs : List Int} (h : AV w b xs) (t : Turn b' w w') (hb : b ≠ b') : AV w' b xs := by
  have e := t.2.2 b hb
  refine ⟨h.1, by rw [t.1]; exact h.2.1, fun i hi => ⟨?_, ?_⟩⟩
  · rw [World.cell?_of_block (w := w) (a := ⟨b, i, none⟩) e]; exact (h.2.2 i hi).1
  · rw [World.frozen?_of_block (w := w) (a := ⟨b, i, none⟩) e]; exact (h.2.2 i hi).2
theorem wl_load {ops : Array Oper} {rest : List Oper} {op : Oper} {a : Act} {w : World} {Q : Exit → Act → World → Prop} {b : Nat} {xs : List Int} (hgd : op.guard = none) (x : Operand) (ho : op.op = .load 89 x) (hx : a.eval x = .pointer (some ⟨b, 0, none⟩)) (h : Hid (AV w b xs))
    (hk : wpList Try.prog ops Q rest (a.put op.dst (.agg (lv xs))) w) : wpList Try.prog ops Q (op :: rest) a w :=
  wpList_load_mid hgd 89 x ho b 0 hx (ints xs) _ h.out.range Try.underlying89 rfl (by rw [ints_len, h.out.1]; exact infL) hk
theorem wl_store {ops : Array Oper} {rest : List Oper} {op : Oper} {a : Act} {w : World} {Q : Exit → Act → World → Prop} {b : Nat} {xs ys : List Int} (hgd : op.guard = none) (x y : Operand) (ho : op.op = .store 89 x y) (hx : a.eval x = .pointer (some ⟨b, 0, none⟩)) (hy : a.eval y = .agg (lv ys)) (h : Hid (AV w b xs)) (hl : ys.length = 21)
    (hk : ∀ w', AV w' b ys → Turn b w w' → wpList Try.prog ops Q rest (a.put op.dst undef) w') : wpList Try.prog ops Q (op :: rest) a w := by
  have hs : (lv ys).size = 21 := by simp [lv, ints_len, hl]
  refine wpList_store_mid hgd 89 x y ho b 0 (lv ys) hx hy (by rw [hs]; exact h.out.there) (by rw [hs]; exact infL) (all_oneCell_toArray (fun v hv => by simp only [ints, List.mem_map] at hv; obtain ⟨x, _, rfl⟩ := hv; rfl)) ?_
  exact hk _ (h.out.stored hl) (turn_cells w b 0 (ints ys))
theorem res_long {fn : Func} {p : Tmp} {tmps : Array Value} {w : World} {b : Nat} {xs : List Int} (h : fn.results = #[.cell p 89]) (hp : tmps.getD p undef = .pointer (some ⟨b, 0, none⟩)) (A : AV w b xs) : (results fn tmps).run Try.prog w = .ok (.agg (lv xs)) w := by
  have hp' : tmps[p]?.getD undef = .pointer (some ⟨b, 0, none⟩) := by simpa using hp
  simp [results, h, hp', asAddr, A.loadVar]
theorem times_nums {D C X D' C' b : Nat} (e0 : C + D * b = X) (d0 : D < Lg.B) (t0 : C ≤ b) (d1 : X % Lg.B = D') (d2 : X / Lg.B = C') (t1 : C' ≤ b) (hb : b ≤ 1000000000) :
    wrap64 ((D : Int) * (b : Int)) = (D : Int) * (b : Int) ∧ wrap64 ((C : Int) + (D : Int) * (b : Int)) = (X : Int) ∧ Int.tmod (X : Int) 1000000001 = (D' : Int) ∧ (X : Int) % 1000000001 = (D' : Int) ∧ Int.tdiv (X : Int) 1000000001 = (C' : Int) ∧ (X : Int) / 1000000001 = (C' : Int) ∧ wrap64 (D' : Int) = (D' : Int) ∧ wrap64 (C' : Int) = (C' : Int) := by
  have hB : Lg.B = 1000000001 := rfl
  rw [hB] at d0 d1 d2
  have h1 : D * b ≤ 1000000000 * 1000000000 := Nat.mul_le_mul (by omega) hb
  have e1 : (D : Int) * (b : Int) = ((D * b : Nat) : Int) := by simp
  rw [e1]
  generalize D * b = Y at *
  refine ⟨wrap_id _ (by omega) (by omega), by rw [wrap_id _ (by omega) (by omega)]; omega, ?_, by omega, ?_, by omega, wrap_id _ (by omega) (by omega), wrap_id _ (by omega) (by omega)⟩
  · rw [Int.tmod_eq_emod_of_nonneg (by omega)]; omega
  · rw [Int.tdiv_eq_ediv_of_nonneg (by omega)]; omega
set_option maxRecDepth 100000 in
set_option maxHeartbeats 2000000 in
theorem times_any (n b : Nat) (w : World) (hb : b ≤ 1000000000) :
    Calls Try.prog 86 #[.agg (lv (Lg.lng n)), .int .i64 b] w fun e w' => e = .returned (.agg (lv (Lg.lng (n * b)))) ∧ Below w.heap.size w w' := by
  have HN := hide (AV.new w (Lg.lng n) (Lg.lng_len n) 89)
  have HZ := hide (zs_new (w.alloc (.cells (lv (Lg.lng n)) 89)) 89)
  generalize lv (Lg.lng n) = c at *
  go_enter Try.func86, Try.ntmps86
  go_wp2_with fail
  go_loopw [5, 6, 7] (fun s5 _ s7 wr => ∃ (k : Nat) (xs : List Int), s5 = .int .i64 (Lg.tc n b k : Nat) ∧ s7 = .int .i64 k ∧ k ≤ 21 ∧ Hid (AV wr w.heap.size xs) ∧ Hid (AV wr (w.heap.size + 1) zs) ∧ Hid (∀ i, i < 21 → xs.getD i 0 = if i < k then (Lg.dig (n * b) i : Int) else (Lg.dig n i : Int)) ∧ Below w.heap.size w wr) (fun _ _ s _ => 21 - (intOf s).toNat)
  case atStart => exact ⟨0, Lg.lng n, by rw [Lg.tc_zero]; rfl, rfl, Nat.zero_le _, hide (HN.out.below ((Below.refl _ _).alloc (Nat.le_refl _) _)), hide (by have := HZ.out; simpa using this), hide fun i hi => by rw [Lg.lng_at n hi]; simp, ((Below.refl _ _).alloc (Nat.le_refl _) _).alloc (by simp) _⟩
  case round =>
    obtain ⟨k, xs, rfl, rfl, hk, HX, HZ1, HD, hB⟩ := hrel
    by_cases hlt : k < 21
    · have i0 : (0 : Int) ≤ (k : Int) := by omega
      have i1 : (k : Int) < 21 := by omega
      have c0 := (HX.out.2.2 k hlt).1
      have f0 := (HX.out.2.2 k hlt).2
      rw [HD.out k hlt, if_neg (by omega)] at c0
      have e0 := Lg.t_step n b k
      have d0 := Lg.dig_lt n k
      have t0 := Lg.tc_le n b k
      have d1 := Lg.t_dig n b k
      have d2 := Lg.t_carry n b k
      have t1 := Lg.tc_le n b (k + 1)
      have HSET : Hid (∀ i, i < 21 → (xs.set k ((Lg.dig (n * b) k : Nat) : Int)).getD i 0 = if i < k + 1 then (Lg.dig (n * b) i : Int) else (Lg.dig n i : Int)) := hide fun i hi => by
        rw [Sh.set_get _ _ _ _ (by have := HX.out.1; omega)]
        by_cases e : i = k
        · subst e; simp
        · rw [if_neg e, HD.out i hi]
          by_cases q : i < k
          · rw [if_pos q, if_pos (by omega)]
          · rw [if_neg q, if_neg (by omega)]
      have HST := hide (HX.out.set k ((Lg.dig (n * b) k : Nat) : Int) hlt)
      have HZT := hide (HZ1.out.other (b' := w.heap.size) (k := k) (v := .int .i64 ((Lg.dig (n * b) k : Nat) : Int)) (by omega))
      generalize Lg.dig n k = D at *
      generalize Lg.dig (n * b) k = D' at *
      generalize Lg.tx n b k = X at *
      generalize Lg.tc n b k = C at *
      generalize hC' : Lg.tc n b (k + 1) = C' at *
      have HC' := hide hC'
      clear hC'
      obtain ⟨m1, m2, q1, q2, q3, q4, q5, q6⟩ := times_nums e0 d0 t0 d1 d2 t1 hb
      clear e0 d0 t0 d1 d2
      have b0 : ((1000000001 : Int) == 0) = false := by decide
      have b1 : ¬ (1000000001 : Int) = 0 := by decide
      have b2 : (0 : Int) < (1000000001 : Int) := by decide
      generalize (1000000001 : Int) = BB at *
      go_wp2_with fail
      go_roundw
      case rel =>
        (try rw [q6])
        rw [← HC'.out]
        clear m1 m2 q1 q2 q3 q4 q5 q6
        exact ⟨k + 1, xs.set k (D' : Int), rfl, (by simp), hlt, HST, HZT, HSET, hB.setCell (Nat.le_refl _) _⟩
      case measure => clear m1 m2 q1 q2 q3 q4 q5 q6 ; simp only [intOf]; omega
    · have hke : k = 21 := by omega
      subst hke
      have HE := hide (Lg.lng_ext HX.out.1 (fun i hi => by rw [HD.out i hi, if_pos hi]))
      rw [HE.out] at HX
      go_wp2_with (first
        | (refine wl_load rfl _ rfl rfl HX ?_)
        | (refine wl_store rfl _ _ rfl rfl rfl HZ1 (Lg.lng_len _) ?_; intro w2 A2 T2))
      exact bodyPost_ret (v := .agg (lv (Lg.lng (n * b)))) (res_long Try.results86 rfl A2) rfl ⟨rfl, hB.trans (T2.2.1 _ (by omega))⟩

theorem plus_nums {D E C X D' C' : Nat} (e0 : C + (D + E) = X) (d0 : D < Lg.B) (f0 : E < Lg.B) (t0 : C ≤ 1) (d1 : X % Lg.B = D') (d2 : X / Lg.B = C') :
    (wrap64 ((D : Int) + (E : Int)) = (D : Int) + (E : Int) ∧ wrap64 ((C : Int) + ((D : Int) + (E : Int))) = (X : Int) ∧ IntKind.i64.wrap ((D : Int) + (E : Int)) = (D : Int) + (E : Int) ∧ IntKind.i64.wrap ((C : Int) + ((D : Int) + (E : Int))) = (X : Int)) ∧ Int.tmod (X : Int) 1000000001 = (D' : Int) ∧ (X : Int) % 1000000001 = (D' : Int) ∧ Int.tdiv (X : Int) 1000000001 = (C' : Int) ∧ (X : Int) / 1000000001 = (C' : Int) ∧ wrap64 (D' : Int) = (D' : Int) ∧ wrap64 (C' : Int) = (C' : Int) := by
  have hB : Lg.B = 1000000001 := rfl
  rw [hB] at d0 d1 d2 f0
  have u1 : wrap64 ((D : Int) + (E : Int)) = (D : Int) + (E : Int) := wrap_id _ (by omega) (by omega)
  have u2 : wrap64 ((C : Int) + ((D : Int) + (E : Int))) = (X : Int) := by rw [wrap_id _ (by omega) (by omega)]; omega
  refine ⟨⟨u1, u2, by rw [IntKind.wrap_i64]; omega, by rw [IntKind.wrap_i64]; omega⟩, ?_, by omega, ?_, by omega, wrap_id _ (by omega) (by omega), wrap_id _ (by omega) (by omega)⟩
  · rw [Int.tmod_eq_emod_of_nonneg (by omega)]; omega
  · rw [Int.tdiv_eq_ediv_of_nonneg (by omega)]; omega
set_option maxRecDepth 100000 in
set_option maxHeartbeats 2000000 in
theorem plus_any (n m : Nat) (w : World) :
    Calls Try.prog 87 #[.agg (lv (Lg.lng n)), .agg (lv (Lg.lng m))] w fun e w' => e = .returned (.agg (lv (Lg.lng (n + m)))) ∧ Below w.heap.size w w' := by
  have HN := hide (AV.new w (Lg.lng n) (Lg.lng_len n) 89)
  have HM := hide (AV.new (w.alloc (.cells (lv (Lg.lng n)) 89)) (Lg.lng m) (Lg.lng_len m) 89)
  have HZ := hide (zs_new ((w.alloc (.cells (lv (Lg.lng n)) 89)).alloc (.cells (lv (Lg.lng m)) 89)) 89)
  generalize lv (Lg.lng n) = c at *
  generalize lv (Lg.lng m) = d at *
  go_enter Try.func87, Try.ntmps87
  go_wp2_with fail
  go_loopw [5, 6, 7] (fun s5 _ s7 wr => ∃ (k : Nat) (xs : List Int), s5 = .int .i64 (Lg.pc n m k : Nat) ∧ s7 = .int .i64 k ∧ k ≤ 21 ∧ Hid (AV wr w.heap.size xs) ∧ Hid (AV wr (w.heap.size + 1) (Lg.lng m)) ∧ Hid (AV wr (w.heap.size + 1 + 1) zs) ∧ Hid (∀ i, i < 21 → xs.getD i 0 = if i < k then (Lg.dig (n + m) i : Int) else (Lg.dig n i : Int)) ∧ Below w.heap.size w wr) (fun _ _ s _ => 21 - (intOf s).toNat)
  case atStart => exact ⟨0, Lg.lng n, by rw [Lg.pc_zero]; rfl, rfl, Nat.zero_le _, hide ((HN.out.below ((Below.refl _ _).alloc (Nat.le_refl _) _)).below ((Below.refl _ _).alloc (Nat.le_refl _) _)), hide (by have := HM.out.below ((Below.refl _ _).alloc (Nat.le_refl _) (.cells #[.int .i64 0, .int .i64 0, .int .i64 0, .int .i64 0, .int .i64 0, .int .i64 0, .int .i64 0, .int .i64 0, .int .i64 0, .int .i64 0, .int .i64 0, .int .i64 0, .int .i64 0, .int .i64 0, .int .i64 0, .int .i64 0, .int .i64 0, .int .i64 0, .int .i64 0, .int .i64 0, .int .i64 0] 89)); simpa using this), hide (by have := HZ.out; simpa using this), hide fun i hi => by rw [Lg.lng_at n hi]; simp, (((Below.refl _ _).alloc (Nat.le_refl _) _).alloc (by simp) _).alloc (by simp; omega) _⟩
  case round =>
    obtain ⟨k, xs, rfl, rfl, hk, HX, HM1, HZ1, HD, hB⟩ := hrel
    by_cases hlt : k < 21
    · have i0 : (0 : Int) ≤ (k : Int) := by omega
      have i1 : (k : Int) < 21 := by omega
      have c0 := (HX.out.2.2 k hlt).1
      have f0 := (HX.out.2.2 k hlt).2
      have c1 := (HM1.out.2.2 k hlt).1
      rw [HD.out k hlt, if_neg (by omega)] at c0
      rw [Lg.lng_at m hlt] at c1
      have e0 := Lg.p_step n m k
      have d0 := Lg.dig_lt n k
      have g0 := Lg.dig_lt m k
      have t0 := Lg.pc_le n m k
      have d1 := Lg.p_dig n m k
      have d2 := Lg.p_carry n m k
      have HSET : Hid (∀ i, i < 21 → (xs.set k ((Lg.dig (n + m) k : Nat) : Int)).getD i 0 = if i < k + 1 then (Lg.dig (n + m) i : Int) else (Lg.dig n i : Int)) := hide fun i hi => by
        rw [Sh.set_get _ _ _ _ (by have := HX.out.1; omega)]
        by_cases e : i = k
        · subst e; simp
        · rw [if_neg e, HD.out i hi]
          by_cases q : i < k
          · rw [if_pos q, if_pos (by omega)]
          · rw [if_neg q, if_neg (by omega)]
      have HST := hide (HX.out.set k ((Lg.dig (n + m) k : Nat) : Int) hlt)
      have HMT := hide (HM1.out.other (b' := w.heap.size) (k := k) (v := .int .i64 ((Lg.dig (n + m) k : Nat) : Int)) (by omega))
      have HZT := hide (HZ1.out.other (b' := w.heap.size) (k := k) (v := .int .i64 ((Lg.dig (n + m) k : Nat) : Int)) (by omega))
      generalize Lg.dig n k = D at *
      generalize Lg.dig m k = E at *
      generalize Lg.dig (n + m) k = D' at *
      generalize Lg.px n m k = X at *
      generalize Lg.pc n m k = C at *
      generalize hC' : Lg.pc n m (k + 1) = C' at *
      have HC' := hide hC'
      clear hC'
      obtain ⟨⟨m1, m2, m3, m4⟩, q1, q2, q3, q4, q5, q6⟩ := plus_nums e0 d0 g0 t0 d1 d2
      clear e0 d0 t0 d1 d2 g0
      have b0 : ((1000000001 : Int) == 0) = false := by decide
      have b1 : ¬ (1000000001 : Int) = 0 := by decide
      have b2 : (0 : Int) < (1000000001 : Int) := by decide
      generalize (1000000001 : Int) = BB at *
      go_wp2_with fail
      go_region
      go_wp2_with fail
      go_roundw
      case rel =>
        (try rw [q6])
        rw [← HC'.out]
        clear m1 m2 m3 m4 q1 q2 q3 q4 q5 q6
        exact ⟨k + 1, xs.set k (D' : Int), rfl, (by simp), hlt, HST, HMT, HZT, HSET, hB.drew.setCell (Nat.le_refl _) _⟩
      case measure => clear m1 m2 m3 m4 q1 q2 q3 q4 q5 q6 ; simp only [intOf]; omega
    · have hke : k = 21 := by omega
      subst hke
      have HE := hide (Lg.lng_ext HX.out.1 (fun i hi => by rw [HD.out i hi, if_pos hi]))
      rw [HE.out] at HX
      go_wp2_with (first
        | (refine wl_load rfl _ rfl rfl HX ?_)
        | (refine wl_store rfl _ _ rfl rfl rfl HZ1 (Lg.lng_len _) ?_; intro w2 A2 T2))
      exact bodyPost_ret (v := .agg (lv (Lg.lng (n + m)))) (res_long Try.results87 rfl A2) rfl ⟨rfl, hB.trans (T2.2.1 _ (by omega))⟩

theorem over_nums {D C X R b : Nat} (e0 : C * Lg.B + D = X) (bx : X ≤ 1000000001000000000) (d1 : X / b = R) (bR : R < Lg.B) (c0 : C < b) (hb : b ≤ 1000000000) :
    wrap64 ((C : Int) * 1000000001) = (C : Int) * 1000000001 ∧ wrap64 ((C : Int) * 1000000001 + (D : Int)) = (X : Int) ∧ Int.tmod (X : Int) (b : Int) = ((X % b : Nat) : Int) ∧ (X : Int) % (b : Int) = ((X % b : Nat) : Int) ∧ Int.tdiv (X : Int) (b : Int) = (R : Int) ∧ (X : Int) / (b : Int) = (R : Int) ∧ wrap64 (R : Int) = (R : Int) ∧ wrap64 ((X % b : Nat) : Int) = ((X % b : Nat) : Int) := by
  have hB : Lg.B = 1000000001 := rfl
  rw [hB] at e0 bR
  have hm : X % b < b := Nat.mod_lt _ (by omega)
  refine ⟨wrap_id _ (by omega) (by omega), by rw [wrap_id _ (by omega) (by omega)]; omega, ?_, by simp, ?_, by rw [← d1]; simp, wrap_id _ (by omega) (by omega), wrap_id _ (by omega) (by omega)⟩
  · rw [Int.tmod_eq_emod_of_nonneg (by omega)]; simp
  · rw [Int.tdiv_eq_ediv_of_nonneg (by omega), ← d1]; simp

set_option maxRecDepth 100000 in
set_option maxHeartbeats 2000000 in
theorem over_any (n b : Nat) (w : World) (hn : n < Lg.B ^ 21) (b0 : 0 < b) (hb : b ≤ 1000000000) :
    Calls Try.prog 90 #[.agg (lv (Lg.lng n)), .int .i64 b] w fun e w' => e = .returned (.tuple #[.agg (lv (Lg.lng (n / b))), .int .i64 ((n % b : Nat) : Int)]) ∧ Below w.heap.size w w' := by
  have HN := hide (AV.new w (Lg.lng n) (Lg.lng_len n) 89)
  have HZ := hide (zs_new (w.alloc (.cells (lv (Lg.lng n)) 89)) 89)
  have HT := hide (Lg.oc_top b hn)
  have HE0 : Hid (Lg.oc n b 0 = n % b) := hide (by unfold Lg.oc; simp)
  have bb0 : ((b : Int) == 0) = false := by simp; omega
  have bb1 : ¬ (b : Int) = 0 := by omega
  have bb2 : (0 : Int) < (b : Int) := by omega
  clear hn
  generalize lv (Lg.lng n) = c at *
  go_enter Try.func90, Try.ntmps90
  go_wp2_with fail
  go_loopw [6, 7] (fun s6 s7 wr => ∃ (k : Nat) (xs : List Int), s6 = .int .i64 (Lg.oc n b k : Nat) ∧ s7 = .int .i64 ((k : Int) - 1) ∧ k ≤ 21 ∧ Hid (AV wr w.heap.size xs) ∧ Hid (AV wr (w.heap.size + 1) zs) ∧ Hid (∀ i, i < 21 → xs.getD i 0 = if k ≤ i then (Lg.dig (n / b) i : Int) else (Lg.dig n i : Int)) ∧ Below w.heap.size w wr) (fun _ s _ => (intOf s + 1).toNat)
  case atStart => exact ⟨21, Lg.lng n, by rw [HT.out]; rfl, rfl, Nat.le_refl _, hide (HN.out.below ((Below.refl _ _).alloc (Nat.le_refl _) _)), hide (by have := HZ.out; simpa using this), hide fun i hi => by rw [Lg.lng_at n hi, if_neg (by omega)], ((Below.refl _ _).alloc (Nat.le_refl _) _).alloc (by simp) _⟩
  case round =>
    obtain ⟨k1, xs, rfl, rfl, hk, HX, HZ1, HD, hB⟩ := hrel
    by_cases hlt : 0 < k1
    · obtain ⟨k, rfl⟩ : ∃ k, k1 = k + 1 := ⟨k1 - 1, by omega⟩
      have hk' : k < 21 := by omega
      have e : ((k + 1 : Nat) : Int) - 1 = (k : Int) := by omega
      rw [e]
      have i0 : (0 : Int) ≤ (k : Int) := by omega
      have i1 : (k : Int) < 21 := by omega
      have c0 := (HX.out.2.2 k hk').1
      have f0 := (HX.out.2.2 k hk').2
      rw [HD.out k hk', if_neg (by omega)] at c0
      have d1 := Lg.o_dig n k b0
      have d2 := Lg.o_rest n b k
      have d3 := Lg.o_bd n k b0 hb
      have d4 := Lg.oc_lt n (k + 1) b0
      have d5 := Lg.dig_lt (n / b) k
      have HSET : Hid (∀ i, i < 21 → (xs.set k ((Lg.dig (n / b) k : Nat) : Int)).getD i 0 = if k ≤ i then (Lg.dig (n / b) i : Int) else (Lg.dig n i : Int)) := hide fun i hi => by
        rw [Sh.set_get _ _ _ _ (by have := HX.out.1; omega)]
        by_cases e : i = k
        · subst e; simp
        · rw [if_neg e, HD.out i hi]
          by_cases q : k ≤ i
          · rw [if_pos q, if_pos (by omega)]
          · rw [if_neg q, if_neg (by omega)]
      have HST := hide (HX.out.set k ((Lg.dig (n / b) k : Nat) : Int) hk')
      have HZT := hide (HZ1.out.other (b' := w.heap.size) (k := k) (v := .int .i64 ((Lg.dig (n / b) k : Nat) : Int)) (by omega))
      generalize Lg.dig n k = D at *
      generalize Lg.dig (n / b) k = R at *
      generalize Lg.oc n b (k + 1) = C at *
      generalize hX : C * Lg.B + D = X at *
      obtain ⟨m1, m2, q1, q2, q3, q4, q5, q6⟩ := over_nums hX d3 d1 d5 d4 hb
      rw [d2] at q1 q2 q6
      generalize hC' : Lg.oc n b k = C' at *
      have HC' := hide hC'
      clear hC' hX d1 d2 d3 d4 d5 e
      generalize (1000000001 : Int) = BB at *
      have b3 : ¬ (k : Int) < 0 := by omega
      go_wp2_with fail
      go_roundw
      case rel =>
        (try rw [q6])
        rw [← HC'.out]
        clear m1 m2 q1 q2 q3 q4 q5 q6
        exact ⟨k, xs.set k (R : Int), rfl, (by go_num), Nat.le_of_lt hk', HST, HZT, HSET, hB.setCell (Nat.le_refl _) _⟩
      case measure => clear m1 m2 q1 q2 q3 q4 q5 q6 ; simp only [intOf]; omega
    · have hke : k1 = 0 := by omega
      subst hke
      have HE := hide (Lg.lng_ext HX.out.1 (fun i hi => by rw [HD.out i hi, if_pos (by omega)]))
      rw [HE.out] at HX
      rw [HE0.out]
      go_wp2_with (first
        | (refine wl_load rfl _ rfl rfl HX ?_)
        | (refine wl_store rfl _ _ rfl rfl rfl HZ1 (Lg.lng_len _) ?_; intro w2 A2 T2))
      exact bodyPost_ret (v := .tuple #[.agg (lv (Lg.lng (n / b))), .int .i64 ((n % b : Nat) : Int)]) (by rw [results_cell_tmp Try.results90]; simp [asAddr, Result.andThen, A2.loadVar]) rfl ⟨rfl, hB.trans (T2.2.1 _ (by omega))⟩
end Go.Proofs.Ytmhednkbpniphaa
