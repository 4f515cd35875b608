/-
  What l12Few and FewestBoxes of the model answer.
-/
import Derived.Test.YtoalcmfpbjmapaaIk12
import Derived.Test.YtoalcmfpbjmapaaIh12
import Derived.Test.YtoalcmfpbjmapaaQw0
import Derived.BigQuiet
import Derived.Deep.DeepCutAuto
import Derived.Deep.RegionLaw
namespace Go.Proofs.Ytoalcmfpbjmapaa
open Go.RowKit

theorem none_row12 (w : World) : (w.alloc (.cells #[] 3)).ownsRow w.heap.size 3 1 (.slice (some ⟨w.heap.size, 0, none⟩) 0 0) 0 [] := by
  have h := World.ownsRow_lit (base := w.heap.size) (e := 3) (size := 1) w #[] 0 (Nat.le_refl _) (by unfold maxLen; omega) (by simp)
  simpa using h
/-- A list of ints behind an empty one. -/
theorem cl_run12 {w : World} {a : Option Addr} {n c : Nat} {xs : List Int} (hx : xs.length = n) (hn : n ≤ 1000) (ha : ARow w a xs) :
    ∃ a' c' w', (∀ ty, (Builtin.append_ #[22, 22] ty #[.slice (some ⟨w.heap.size, 0, none⟩) 0 0, .slice a n c]).run Try.prog (w.alloc (.cells #[] 3)) = .ok (.slice a' n c') w') ∧ w'.ownsRow w.heap.size 3 1 (.slice a' n c') n (ints xs) ∧ Below w.heap.size w w' := by
  obtain ⟨i0', hi', hz0, hz1, hz2⟩ := infoI
  obtain ⟨v', w', h1, h2, h3⟩ := run_append_v (P := Try.prog) (w.alloc (.cells #[] 3)) w.heap.size 22 0 3 i0' _ 8 Try.underlying22 hi' hz0 hz1 hz2 rfl _ 0 _ (none_row12 w) a n c (ints xs) (by rw [ints_len, hx]) (ha.alloc _).vrow (c_ints xs) (by unfold maxLen; omega) (by omega) (by simp)
  rw [Nat.zero_add] at h2
  obtain ⟨a', c', rfl⟩ := own_form h2
  exact ⟨a', c', w', fun _ => h1, h2, ((Below.refl _ _).alloc (Nat.le_refl _) (.cells #[] 3)).trans ⟨h3.os, h3.tape, h3.output, h3.size, fun b hb => h3.block b (by simp; omega) (by simp [Value.ownBlock]; omega)⟩⟩
/-- Behind an empty list, wherever that lies. -/
theorem ap1 {W : World} {a : Option Addr} {n c base g : Nat} {xs : List Int} (hx : xs.length = n) (hn : n ≤ 1000) (hb : base ≤ W.heap.size) (hE : W.ownsRow base 3 1 (.slice (some ⟨g, 0, none⟩) 0 0) 0 []) (ha : ARow W a xs) :
    ∃ a' c' w', (∀ ty, (Builtin.append_ #[22, 22] ty #[.slice (some ⟨g, 0, none⟩) 0 0, .slice a n c]).run Try.prog W = .ok (.slice a' n c') w') ∧ w'.ownsRow base 3 1 (.slice a' n c') n (ints xs) ∧ W.grownBy w' (some g) := by
  obtain ⟨i0', hi', hz0, hz1, hz2⟩ := infoI
  obtain ⟨v', w', h1, h2, h3⟩ := run_append_v (P := Try.prog) W base 22 0 3 i0' _ 8 Try.underlying22 hi' hz0 hz1 hz2 rfl _ 0 _ hE a n c (ints xs) (by rw [ints_len, hx]) ha.vrow (c_ints xs) (by unfold maxLen; omega) (by omega) hb
  rw [Nat.zero_add] at h2
  obtain ⟨a', c', rfl⟩ := own_form h2
  exact ⟨a', c', w', fun _ => h1, h2, h3⟩
theorem ap2 {W : World} {n base gx : Nat} {v : Value} {xs : List Int} {x : Int} (hx : xs.length = n) (hn : n ≤ 1000) (hb : base ≤ W.heap.size) (ho : W.ownsRow base 3 1 v n (ints xs)) (hX : VRow W (some ⟨gx, 0, none⟩) [.int .i64 x]) :
    ∃ a' c' w', (∀ ty, (Builtin.append_ #[22, 22] ty #[v, .slice (some ⟨gx, 0, none⟩) 1 1]).run Try.prog W = .ok (.slice a' (n + 1) c') w') ∧ ARow w' a' (xs ++ [x]) ∧ Below base W w' := by
  obtain ⟨i0', hi', hz0, hz1, hz2⟩ := infoI
  obtain ⟨v', w', h1, h2, h3⟩ := run_append_v (P := Try.prog) W base 22 0 3 i0' _ 8 Try.underlying22 hi' hz0 hz1 hz2 rfl v n _ ho (some ⟨gx, 0, none⟩) 1 1 [.int .i64 x] rfl hX (fun u hu => by simp at hu; subst hu; rfl) (by unfold maxLen; omega) (by omega) hb
  rw [← ints_snoc] at h2
  obtain ⟨a', c', e, h⟩ := own_row (xs := xs ++ [x]) (by rw [List.length_append, hx]; rfl) h2
  subst e
  exact ⟨a', c', w', fun _ => h1, h, grown_under' h3 ho (Nat.le_refl _) hb⟩
theorem vrow_at {W : World} {g : Nat} {u : Value} (h : W.cell? ⟨g, 0, none⟩ = some u) : VRow W (some ⟨g, 0, none⟩) [u] := by
  refine Or.inr ⟨g, 0, rfl, World.block_lt_of_cell? W _ h, fun j x hj => ?_⟩
  have : j = 0 := by
    have := (List.getElem?_eq_some_iff.1 hj).1
    simpa using this
  subst this
  simp at hj; subst hj
  exact h
/-- The copy of a list and one more, whenever the one more was laid. -/
structure Cp3 (D : World) (aL : Option Addr) (m cL : Nat) (R : List Int) (x : Int) (a1 : Option Addr) (c1 : Nat) (w1 : World) (a2 : Option Addr) (c2 : Nat) (w2 : World) (E X : Nat) (W1 : World) (W2 : World) : Prop where
  r1 : ∀ ty, (Builtin.append_ #[22, 22] ty #[.slice (some ⟨E, 0, none⟩) 0 0, .slice aL m cL]).run Try.prog W1 = .ok (.slice a1 m c1) w1
  r2 : ∀ ty, (Builtin.append_ #[22, 22] ty #[.slice a1 m c1, .slice (some ⟨X, 0, none⟩) 1 1]).run Try.prog W2 = .ok (.slice a2 (m + 1) c2) w2
  b1 : Below D.heap.size D w1
  b2 : Below D.heap.size D w2
  row : ARow w2 a2 (R ++ [x])
theorem cp_a {D : World} {aL : Option Addr} {m cL : Nat} {R : List Int} {x : Int} (hm : R.length = m) (hn : m ≤ 900) (hr : ARow D aL R) :
    ∃ a1 c1 w1 a2 c2 w2, Cp3 D aL m cL R x a1 c1 w1 a2 c2 w2 D.heap.size w1.heap.size (D.alloc (.cells #[] 3)) (w1.alloc (.cells #[.int .i64 x] 3)) := by
  obtain ⟨a1, c1, w1, r1, o1, g1⟩ := ap1 (c := cL) hm (by omega) (by simp) (none_row12 D) (hr.alloc _)
  have b1 : Below D.heap.size D w1 := (below_alloc D _).trans ⟨g1.os, g1.tape, g1.output, g1.size, fun b hb => g1.block b (by simp; omega) (by simp; omega)⟩
  obtain ⟨a2, c2, w2, r2, h2, b2⟩ := ap2 (x := x) hm (by omega) (by have := b1.size; simp; omega) (o1.alloc (.cells #[.int .i64 x] 3)) (vrow_new w1 _ 3)
  exact ⟨a1, c1, w1, a2, c2, w2, r1, r2, b1, (b1.alloc b1.size _).trans b2, h2⟩
theorem cp_b {D : World} {aL : Option Addr} {m cL : Nat} {R : List Int} {x : Int} (hm : R.length = m) (hn : m ≤ 900) (hr : ARow D aL R) :
    ∃ a1 c1 w1 a2 c2 w2, Cp3 D aL m cL R x a1 c1 w1 a2 c2 w2 D.heap.size (D.heap.size + 1) ((D.alloc (.cells #[] 3)).alloc (.cells #[.int .i64 x] 3)) w1 := by
  obtain ⟨a1, c1, w1, r1, o1, g1⟩ := ap1 (c := cL) (W := (D.alloc (.cells #[] 3)).alloc (.cells #[.int .i64 x] 3)) hm (by omega) (by simp; omega) ((none_row12 D).alloc _) ((hr.alloc _).alloc _)
  have bb : Below D.heap.size D ((D.alloc (.cells #[] 3)).alloc (.cells #[.int .i64 x] 3)) := (below_alloc D _).alloc (by simp) _
  have b1 : Below D.heap.size D w1 := bb.trans ⟨g1.os, g1.tape, g1.output, g1.size, fun b hb => g1.block b (by simp; omega) (by simp; omega)⟩
  have hx : w1.cell? ⟨D.heap.size + 1, 0, none⟩ = some (.int .i64 x) := (World.cell?_of_block (a := ⟨D.heap.size + 1, 0, none⟩) (g1.block (D.heap.size + 1) (by simp) (by simp))).trans (by simp)
  obtain ⟨a2, c2, w2, r2, h2, b2⟩ := ap2 (x := x) hm (by omega) b1.size o1 (vrow_at hx)
  exact ⟨a1, c1, w1, a2, c2, w2, r1, r2, b1, b1.trans b2, h2⟩
theorem cp_c {D : World} {aL : Option Addr} {m cL : Nat} {R : List Int} {x : Int} (hm : R.length = m) (hn : m ≤ 900) (hr : ARow D aL R) :
    ∃ a1 c1 w1 a2 c2 w2, Cp3 D aL m cL R x a1 c1 w1 a2 c2 w2 (D.heap.size + 1) D.heap.size ((D.alloc (.cells #[.int .i64 x] 3)).alloc (.cells #[] 3)) w1 := by
  have hE := own_low2 (base' := D.heap.size) (none_row12 (D.alloc (.cells #[.int .i64 x] 3))) (by simp)
  rw [show (D.alloc (.cells #[.int .i64 x] 3)).heap.size = D.heap.size + 1 by simp] at hE
  obtain ⟨a1, c1, w1, r1, o1, g1⟩ := ap1 (c := cL) (W := (D.alloc (.cells #[.int .i64 x] 3)).alloc (.cells #[] 3)) hm (by omega) (by simp; omega) hE ((hr.alloc _).alloc _)
  have bb : Below D.heap.size D ((D.alloc (.cells #[.int .i64 x] 3)).alloc (.cells #[] 3)) := (below_alloc D _).alloc (by simp) _
  have b1 : Below D.heap.size D w1 := bb.trans ⟨g1.os, g1.tape, g1.output, g1.size, fun b hb => g1.block b (by simp; omega) (by simp; omega)⟩
  have hx : w1.cell? ⟨D.heap.size, 0, none⟩ = some (.int .i64 x) := (World.cell?_of_block (a := ⟨D.heap.size, 0, none⟩) (g1.block D.heap.size (by simp; omega) (by simp))).trans (by simp)
  obtain ⟨a2, c2, w2, r2, h2, b2⟩ := ap2 (x := x) hm (by omega) b1.size o1 (vrow_at hx)
  exact ⟨a1, c1, w1, a2, c2, w2, r1, r2, b1, b1.trans b2, h2⟩
theorem ARow.tail {w : World} {b o : Nat} {s : Int} {t : List Int} (h : ARow w (some ⟨b, o, none⟩) (s :: t)) : ARow w (some ⟨b, o + 1, none⟩) t := by
  rcases h with h | ⟨b', o', e, hl, hc⟩
  · cases h
  · cases e
    cases t with
    | nil => exact Or.inl rfl
    | cons y t =>
      refine Or.inr ⟨b, o + 1, rfl, hl, fun i hi => ?_⟩
      have := hc (i + 1) (by simpa using hi)
      rw [show o + (i + 1) = o + 1 + i by omega, List.getD_cons_succ] at this
      exact this
theorem It.snoc_at (R : List Int) (x : Int) (b : Nat) : (R ++ [x]).getD b 0 = if b < R.length then R.getD b 0 else if b = R.length then x else 0 := by
  by_cases e : b < R.length
  · rw [if_pos e]; simp [List.getElem?_append_left e]
  · rw [if_neg e]
    by_cases e2 : b = R.length
    · subst e2; simp
    · rw [if_neg e2, List.getD_eq_getElem?_getD, List.getElem?_eq_none (by simp; omega)]; rfl
theorem It.PosL.snoc {R : List Int} {x : Int} (h : It.PosL R) (hx : 0 ≤ x) : It.PosL (R ++ [x]) := fun b _ => by
  rw [It.snoc_at]
  split
  · exact h b ‹_›
  · split <;> omega
theorem It.snoc_le {R : List Int} {x : Int} {m : Nat} (hm : R.length = m) (h : ∀ b, b < m → R.getD b 0 ≤ 20) (hx : x ≤ 20) : ∀ b, b < m + 1 → (R ++ [x]).getD b 0 ≤ 20 := fun b _ => by
  rw [It.snoc_at]
  split
  · exact h b (by omega)
  · split <;> omega
def FWP (l : List Int) : Prop := ∀ (a aL : Option Addr) (n c m cL : Nat) (R : List Int) (best : Nat) (w : World), l.length = n → n ≤ 1000 → n ≤ c → (∀ x ∈ l, 1 ≤ x ∧ x ≤ 20) → R.length = m → m + n ≤ 900 → It.PosL R → (∀ b, b < m → R.getD b 0 ≤ 20) → best ≤ 2000 → ARow w a l → ARow w aL R →
    Calls Try.prog 38 #[.slice a n c, .slice aL m cL, .int .i64 best] w fun e w' => ∃ r : Nat, e = .returned (.int .i64 r) ∧ It.FewR l R best r ∧ Below w.heap.size w w'
set_option maxHeartbeats 1000000 in
theorem fw_full {l : List Int} {a aL : Option Addr} {n c m cL : Nat} {R : List Int} {best : Nat} {w : World} (hm : R.length = m) (h : best ≤ m) :
    Calls Try.prog 38 #[.slice a n c, .slice aL m cL, .int .i64 best] w fun e w' => ∃ r : Nat, e = .returned (.int .i64 r) ∧ It.FewR l R best r ∧ Below w.heap.size w w' := by
  have h' : (best : Int) ≤ (m : Int) := by omega
  have HF := hide (It.few_full (S := l) (R := R) (best := best) (by omega))
  clear hm h
  go_enter Try.func38, Try.ntmps38
  go_wp2_with fail
  go_ret
  exact ⟨best, rfl, HF.out, Below.refl _ _⟩
set_option maxRecDepth 100000 in
set_option maxHeartbeats 4000000 in
theorem fw12 (l : List Int) : FWP l := by
  induction l with
  | nil =>
    intro a aL n c m cL R best w hl _ _ _ hm _ hp _ _ _ _
    by_cases hb : best ≤ m
    · exact fw_full hm hb
    · obtain rfl : n = 0 := hl.symm
      have hb' : ¬ (best : Int) ≤ (m : Int) := by omega
      have HF := hide (It.few_none hp (best := best) (by omega))
      rw [hm] at HF
      clear hl hm hp hb
      go_enter Try.func38, Try.ntmps38
      go_wp2_with fail
      go_ret
      exact ⟨m, rfl, HF.out, Below.refl _ _⟩
  | cons s t ih =>
    have IH := hide ih
    clear ih
    intro a aL n c m cL R best w hl hn hnc hs hm hmn hp h20 hbest ha hr
    by_cases hb : best ≤ m
    · exact fw_full hm hb
    have hb' : ¬ (best : Int) ≤ (m : Int) := by omega
    obtain ⟨s1, s2⟩ := hs s (by simp)
    have HSZ := hide (fun y (hy : y ∈ t) => hs y (by simp [hy]))
    have HPT : Hid (∀ y ∈ t, 0 ≤ y) := hide fun y hy => by have := hs y (by simp [hy]); omega
    obtain ⟨b, o, rfl, q0⟩ := ha.at (i := 0) (by simp)
    have hbw : b < w.heap.size := World.block_lt_of_cell? w _ q0
    have q0' : w.cell? ⟨b, o, none⟩ = some (.int .i64 s) := by simpa using q0
    have HT := hide fun (W : World) (h : Below w.heap.size w W) => (ha.tail).below h
    have HRR := hide fun (W : World) (h : Below w.heap.size w W) => hr.below h
    have HM := hide hm
    have HP := hide hp
    have H20 := hide h20
    have hn1 : 1 ≤ n := by rw [← hl]; simp
    have HLT : Hid (t.length = n - 1) := hide (by rw [← hl]; simp)
    have c1 : (1 : Int) ≤ (n : Int) := by omega
    have c0 : ((n : Int) == 0) = false := by simp; omega
    have c2 : (0 : Int) < (n : Int) := by omega
    have c3 : 0 < n := by omega
    have HQ0 := hide fun (W : World) (h : Below w.heap.size w W) => (h.cell (p := ⟨b, o, none⟩) hbw).trans q0'
    clear hl hs hm hp h20 ha hr q0 q0' hb
    by_cases hc1 : c = 1
    · subst hc1
      have HT0 : Hid (∀ W : World, ARow W (some ⟨b, o, none⟩) t) := hide fun W => Or.inl (List.length_eq_zero_iff.1 (by rw [HLT.out]; omega))
      go_enter Try.func38, Try.ntmps38
      go_wp2_with fail
      go_loopw [2, 7, 8, 21] (fun s2 _ _ s21 wr => ∃ (k r : Nat), s2 = .int .i64 r ∧ s21 = .int .i64 k ∧ k ≤ m ∧ Hid (It.FewK s t R best k r) ∧ Hid (Below w.heap.size w wr)) (fun _ _ _ s21 _ => m - (intOf s21).toNat)
      case atStart => exact ⟨0, best, rfl, rfl, Nat.zero_le _, hide (It.fk_start _ _ _ _), hide (Below.refl _ _)⟩
      case round =>
        obtain ⟨k, r, rfl, rfl, hk, HFK, HB⟩ := hrel
        have hrb := HFK.out.le
        by_cases hlt : k < m
        · have i0 : (0 : Int) ≤ (k : Int) := by omega
          have i1 : (k : Int) < (m : Int) := by omega
          obtain ⟨bL, oL, ea, p1⟩ := (HRR.out _ HB.out).at (i := k) (by rw [HM.out]; exact hlt)
          subst ea
          have p2 := HQ0.out _ HB.out
          have hr0 := HP.out k (by rw [HM.out]; exact hlt)
          have hr1 := H20.out k hlt
          by_cases hrs : s ≤ R.getD k 0
          · have HNX := hide fun r' h => HFK.out.next (by omega) s2 HPT.out (by rw [HM.out]; exact hlt) hrs (r' := r') h
            have HPS := hide (HP.out.set (i := k) (s := s) (by rw [HM.out]; exact hlt) hrs)
            have HSL : Hid ((R.set k (R.getD k 0 - s)).length = m) := hide (by rw [List.length_set]; exact HM.out)
            have HSB : Hid (∀ b, b < m → (R.set k (R.getD k 0 - s)).getD b 0 ≤ 20) := hide fun b hb => by
              rw [It.getD_set (by rw [HM.out]; exact hlt)]
              split
              · omega
              · exact H20.out b hb
            have HRK : Hid (R.getD k 0 = R.getD k 0) := hide rfl
            generalize hx : R.getD k 0 = x at *
            have HX := hide hx
            have hws : IntKind.i64.wrap (x - s) = x - s := by rw [IntKind.wrap_i64]; omega
            clear HFK hx HRK
            go_upto_region 8 with fail
            go_quiet (fail)
            have hD : Below wr.heap.size wr (wr.drewN nq) := below_drewN (Below.refl _ _) nq
            have BD := hide (HB.out.trans (hD.mono HB.out.size))
            obtain ⟨a1, c1', w1, hr1', own1, hb1⟩ := cl_run12 (c := cL) (w := wr.drewN nq) HM.out (by omega) (HRR.out _ BD.out)
            obtain ⟨g1, cg1, e1, hg1, _⟩ := own1.form (by omega)
            cases e1
            have B1 := hide (BD.out.trans (hb1.mono BD.out.size))
            have z1 : w1.cell? ⟨g1, k, none⟩ = some (.int .i64 x) := by rw [own1.cellAt k (by omega), ints_get R k (by rw [HM.out]; exact hlt), HX.out]
            have z2 := own1.frozenAt k
            have z3 := HQ0.out _ B1.out
            obtain ⟨st1, st2⟩ := own1.stored k (.int .i64 (x - s))
            rw [ints_set] at st1
            have hgw : w.heap.size ≤ g1 := by have := BD.out.size; have := (own1.lt g1 rfl).1; omega
            have B2 : Hid (Below w.heap.size w (w1.setCell ⟨g1, k, none⟩ (.int .i64 (x - s)))) := hide (B1.out.setCell (p := ⟨g1, k, none⟩) hgw _)
            have HRW := hide (arow_owns (by rw [List.length_set]; exact HM.out.symm) st1)
            clear own1 hb1 st1 st2 hD hg1 p1 p2
            go_upto_region 10 with (at_builtin; refine Lib.wpList_append_run _ rfl _ _ _ _ rfl _ _ rfl rfl _ _ (hr1' _) ?_)
            go_region
            have B3 : Hid (Below w.heap.size w ((w1.setCell ⟨g1, k, none⟩ (.int .i64 (x - s))).drew)) := hide (B2.out.drew)
            have HC := hide fun (a2 : Option Addr) (n2 c2 : Nat) (h3 : t.length = n2) (h2 : n2 ≤ c2) (h : ARow ((w1.setCell ⟨g1, k, none⟩ (.int .i64 (x - s))).drew) a2 t) => IH.out a2 (some ⟨g1, 0, none⟩) n2 c2 m c1' (R.set k (x - s)) r _ h3 (by have := HLT.out; omega) h2 HSZ.out HSL.out (by have := HLT.out; omega) HPS.out HSB.out (by omega) h (HRW.out.below ((Below.refl _ _).drew))
            have HT3 := hide (HT0.out ((w1.setCell ⟨g1, k, none⟩ (.int .i64 (x - s))).drew))
            clear z1 z2 z3 B1 B2 BD hr1' HRW IH HB
            go_wp2_with fail
            refine (HC.out _ _ _ (by have := HLT.out; omega) (by omega) HT3.out).mono ?_
            rintro e w5 ⟨r', rfl, hf5, hb5⟩
            have H1 := hide (HNX.out r' hf5)
            have HB5 := hide (B3.out.trans (hb5.mono B3.out.size))
            clear hf5 hb5 HC B3 HNX HT3
            go_wp2_with fail
            go_roundw
            case rel => exact ⟨k + 1, r', rfl, by go_num, by omega, H1, HB5⟩
            case measure => simp only [intOf]; omega
          · have H1 := hide (HFK.out.small hrs)
            have hrs' : ¬ s ≤ R.getD k 0 := hrs
            generalize R.getD k 0 = x at *
            clear HFK
            go_upto_region 8 with fail
            go_quiet (fail)
            have HB2 := hide (below_drewN HB.out nq)
            go_wp2_with fail
            go_roundw
            case rel => exact ⟨k + 1, r, rfl, by go_num, by omega, H1, HB2⟩
            case measure => simp only [intOf]; omega
        · have hke : k = m := by omega
          subst hke
          have HLS := hide fun r' h => HFK.out.last (by omega) s2 HPT.out (by rw [HM.out]; exact Nat.le_refl _) (r' := r') h
          have hD : Below wr.heap.size wr wr.drew := (Below.refl _ _).drew
          have BD := hide (HB.out.trans (hD.mono HB.out.size))
          obtain ⟨a1, d1, w1, a2, d2, w2, kA⟩ := cp_a (cL := cL) (x := 20 - s) HM.out (by omega) (HRR.out _ BD.out)
          obtain ⟨a3, d3, w3, a4, d4, w4, kB⟩ := cp_b (cL := cL) (x := 20 - s) HM.out (by omega) (HRR.out _ BD.out)
          obtain ⟨a5, d5, w5, a6, d6, w6, kC⟩ := cp_c (cL := cL) (x := 20 - s) HM.out (by omega) (HRR.out _ BD.out)
          have p0 := HQ0.out _ HB.out
          have p1 := ((below_alloc wr (.cells #[] 3)).cell (p := ⟨b, o, none⟩) (by have := HB.out.size; show b < wr.heap.size; omega)).trans p0
          have p2 := HQ0.out _ (BD.out.trans (kA.b1.mono BD.out.size))
          have hws : IntKind.i64.wrap (20 - s) = 20 - s := by rw [IntKind.wrap_i64]; omega
          have HC := hide fun (W : World) (aR : Option Addr) (cR : Nat) (hR : ARow W aR (R ++ [20 - s])) (a3 : Option Addr) (n2 c2 : Nat) (h3 : t.length = n2) (h2 : n2 ≤ c2) (h : ARow W a3 t) => IH.out a3 aR n2 c2 (k + 1) cR (R ++ [20 - s]) r W h3 (by have := HLT.out; omega) h2 HSZ.out (by rw [List.length_append, HM.out]; rfl) (by have := HLT.out; omega) (It.PosL.snoc HP.out (by omega)) (It.snoc_le HM.out H20.out (by omega)) (by omega) h hR
          have BA := hide (BD.out.trans (kA.b2.mono BD.out.size))
          have BB := hide (BD.out.trans (kB.b2.mono BD.out.size))
          have BC := hide (BD.out.trans (kC.b2.mono BD.out.size))
          have HCA := hide fun n2 h3 c2 h2 => HC.out w2 a2 d2 kA.row _ n2 c2 h3 h2 (HT0.out w2)
          have HCB := hide fun n2 h3 c2 h2 => HC.out w4 a4 d4 kB.row _ n2 c2 h3 h2 (HT0.out w4)
          have HCC := hide fun n2 h3 c2 h2 => HC.out w6 a6 d6 kC.row _ n2 c2 h3 h2 (HT0.out w6)
          have A1 := hide kA.r1
          have A2 := hide kA.r2
          have B1 := hide kB.r1
          have B2 := hide kB.r2
          have C1 := hide kC.r1
          have C2 := hide kC.r2
          clear kA kB kC hD BD HFK IH HC
          go_wp2_with fail
          go_region_law ((first
            | (refine step_append_run9 (by rfl) (.tmp 52) (.tmp 53) 22 22 (by rfl) (.slice (some ⟨wr.drew.heap.size, 0, none⟩) 0 0) (.slice aL k cL) (by simp [go_sem]) (by simp [go_sem]) (.slice a1 k d1) w1 (A1.out _) ?_)
            | (refine step_append_run9 (by rfl) (.tmp 52) (.tmp 53) 22 22 (by rfl) (.slice (some ⟨wr.drew.heap.size, 0, none⟩) 0 0) (.slice aL k cL) (by simp [go_sem]) (by simp [go_sem]) (.slice a3 k d3) w3 (B1.out _) ?_)
            | (refine step_append_run9 (by rfl) (.tmp 52) (.tmp 53) 22 22 (by rfl) (.slice (some ⟨wr.drew.heap.size + 1, 0, none⟩) 0 0) (.slice aL k cL) (by simp [go_sem]) (by simp [go_sem]) (.slice a5 k d5) w5 (C1.out _) ?_)
            | (refine step_append_run9 (by rfl) (.tmp 54) (.tmp 59) 22 22 (by rfl) (.slice a1 k d1) (.slice (some ⟨w1.heap.size, 0, none⟩) 1 1) (by simp [go_sem]) (by simp [go_sem]) (.slice a2 (k + 1) d2) w2 (A2.out _) ?_)
            | (refine step_append_run9 (by rfl) (.tmp 54) (.tmp 59) 22 22 (by rfl) (.slice a3 k d3) (.slice (some ⟨wr.drew.heap.size + 1, 0, none⟩) 1 1) (by simp [go_sem]) (by simp [go_sem]) (.slice a4 (k + 1) d4) w4 (B2.out _) ?_)
            | (refine step_append_run9 (by rfl) (.tmp 54) (.tmp 59) 22 22 (by rfl) (.slice a5 k d5) (.slice (some ⟨wr.drew.heap.size, 0, none⟩) 1 1) (by simp [go_sem]) (by simp [go_sem]) (.slice a6 (k + 1) d6) w6 (C2.out _) ?_)
            | (go_simp; with_reducible show Calls Try.prog _ _ w2 _; refine (HCA.out _ (by have := HLT.out; omega) _ (by omega)).mono ?_; rintro e w9 ⟨r', rfl, hf9, hb9⟩; have hb10 := hide (BA.out.trans (hb9.mono BA.out.size)); clear hb9)
            | (go_simp; with_reducible show Calls Try.prog _ _ w4 _; refine (HCB.out _ (by have := HLT.out; omega) _ (by omega)).mono ?_; rintro e w9 ⟨r', rfl, hf9, hb9⟩; have hb10 := hide (BB.out.trans (hb9.mono BB.out.size)); clear hb9)
            | (go_simp; with_reducible show Calls Try.prog _ _ w6 _; refine (HCC.out _ (by have := HLT.out; omega) _ (by omega)).mono ?_; rintro e w9 ⟨r', rfl, hf9, hb9⟩; have hb10 := hide (BC.out.trans (hb9.mono BC.out.size)); clear hb9)))
          all_goals
            have H1 := hide (HLS.out r' hf9)
            clear hf9
            go_wp2_with fail
            go_ret
            exact ⟨r', rfl, H1.out, hb10.out⟩
    · have hc2 : ¬ c - 1 = 0 := by omega
      go_enter Try.func38, Try.ntmps38
      go_wp2_with fail
      go_loopw [2, 7, 8, 21] (fun s2 _ _ s21 wr => ∃ (k r : Nat), s2 = .int .i64 r ∧ s21 = .int .i64 k ∧ k ≤ m ∧ Hid (It.FewK s t R best k r) ∧ Hid (Below w.heap.size w wr)) (fun _ _ _ s21 _ => m - (intOf s21).toNat)
      case atStart => exact ⟨0, best, rfl, rfl, Nat.zero_le _, hide (It.fk_start _ _ _ _), hide (Below.refl _ _)⟩
      case round =>
        obtain ⟨k, r, rfl, rfl, hk, HFK, HB⟩ := hrel
        have hrb := HFK.out.le
        by_cases hlt : k < m
        · have i0 : (0 : Int) ≤ (k : Int) := by omega
          have i1 : (k : Int) < (m : Int) := by omega
          obtain ⟨bL, oL, ea, p1⟩ := (HRR.out _ HB.out).at (i := k) (by rw [HM.out]; exact hlt)
          subst ea
          have p2 := HQ0.out _ HB.out
          have hr0 := HP.out k (by rw [HM.out]; exact hlt)
          have hr1 := H20.out k hlt
          by_cases hrs : s ≤ R.getD k 0
          · have HNX := hide fun r' h => HFK.out.next (by omega) s2 HPT.out (by rw [HM.out]; exact hlt) hrs (r' := r') h
            have HPS := hide (HP.out.set (i := k) (s := s) (by rw [HM.out]; exact hlt) hrs)
            have HSL : Hid ((R.set k (R.getD k 0 - s)).length = m) := hide (by rw [List.length_set]; exact HM.out)
            have HSB : Hid (∀ b, b < m → (R.set k (R.getD k 0 - s)).getD b 0 ≤ 20) := hide fun b hb => by
              rw [It.getD_set (by rw [HM.out]; exact hlt)]
              split
              · omega
              · exact H20.out b hb
            have HRK : Hid (R.getD k 0 = R.getD k 0) := hide rfl
            generalize hx : R.getD k 0 = x at *
            have HX := hide hx
            have hws : IntKind.i64.wrap (x - s) = x - s := by rw [IntKind.wrap_i64]; omega
            clear HFK hx HRK
            go_upto_region 8 with fail
            go_quiet (fail)
            have hD : Below wr.heap.size wr (wr.drewN nq) := below_drewN (Below.refl _ _) nq
            have BD := hide (HB.out.trans (hD.mono HB.out.size))
            obtain ⟨a1, c1', w1, hr1', own1, hb1⟩ := cl_run12 (c := cL) (w := wr.drewN nq) HM.out (by omega) (HRR.out _ BD.out)
            obtain ⟨g1, cg1, e1, hg1, _⟩ := own1.form (by omega)
            cases e1
            have B1 := hide (BD.out.trans (hb1.mono BD.out.size))
            have z1 : w1.cell? ⟨g1, k, none⟩ = some (.int .i64 x) := by rw [own1.cellAt k (by omega), ints_get R k (by rw [HM.out]; exact hlt), HX.out]
            have z2 := own1.frozenAt k
            have z3 := HQ0.out _ B1.out
            obtain ⟨st1, st2⟩ := own1.stored k (.int .i64 (x - s))
            rw [ints_set] at st1
            have hgw : w.heap.size ≤ g1 := by have := BD.out.size; have := (own1.lt g1 rfl).1; omega
            have B2 : Hid (Below w.heap.size w (w1.setCell ⟨g1, k, none⟩ (.int .i64 (x - s)))) := hide (B1.out.setCell (p := ⟨g1, k, none⟩) hgw _)
            have HRW := hide (arow_owns (by rw [List.length_set]; exact HM.out.symm) st1)
            clear own1 hb1 st1 st2 hD hg1 p1 p2
            go_upto_region 10 with (at_builtin; refine Lib.wpList_append_run _ rfl _ _ _ _ rfl _ _ rfl rfl _ _ (hr1' _) ?_)
            go_region
            have B3 : Hid (Below w.heap.size w ((w1.setCell ⟨g1, k, none⟩ (.int .i64 (x - s))).drew)) := hide (B2.out.drew)
            have HC := hide fun (a2 : Option Addr) (n2 c2 : Nat) (h3 : t.length = n2) (h2 : n2 ≤ c2) (h : ARow ((w1.setCell ⟨g1, k, none⟩ (.int .i64 (x - s))).drew) a2 t) => IH.out a2 (some ⟨g1, 0, none⟩) n2 c2 m c1' (R.set k (x - s)) r _ h3 (by have := HLT.out; omega) h2 HSZ.out HSL.out (by have := HLT.out; omega) HPS.out HSB.out (by omega) h (HRW.out.below ((Below.refl _ _).drew))
            have HT3 := hide (HT.out _ B3.out)
            clear z1 z2 z3 B1 B2 BD hr1' HRW IH HB
            go_wp2_with fail
            refine (HC.out _ _ _ (by have := HLT.out; omega) (by omega) HT3.out).mono ?_
            rintro e w5 ⟨r', rfl, hf5, hb5⟩
            have H1 := hide (HNX.out r' hf5)
            have HB5 := hide (B3.out.trans (hb5.mono B3.out.size))
            clear hf5 hb5 HC B3 HNX HT3
            go_wp2_with fail
            go_roundw
            case rel => exact ⟨k + 1, r', rfl, by go_num, by omega, H1, HB5⟩
            case measure => simp only [intOf]; omega
          · have H1 := hide (HFK.out.small hrs)
            have hrs' : ¬ s ≤ R.getD k 0 := hrs
            generalize R.getD k 0 = x at *
            clear HFK
            go_upto_region 8 with fail
            go_quiet (fail)
            have HB2 := hide (below_drewN HB.out nq)
            go_wp2_with fail
            go_roundw
            case rel => exact ⟨k + 1, r, rfl, by go_num, by omega, H1, HB2⟩
            case measure => simp only [intOf]; omega
        · have hke : k = m := by omega
          subst hke
          have HLS := hide fun r' h => HFK.out.last (by omega) s2 HPT.out (by rw [HM.out]; exact Nat.le_refl _) (r' := r') h
          have hD : Below wr.heap.size wr wr.drew := (Below.refl _ _).drew
          have BD := hide (HB.out.trans (hD.mono HB.out.size))
          obtain ⟨a1, d1, w1, a2, d2, w2, kA⟩ := cp_a (cL := cL) (x := 20 - s) HM.out (by omega) (HRR.out _ BD.out)
          obtain ⟨a3, d3, w3, a4, d4, w4, kB⟩ := cp_b (cL := cL) (x := 20 - s) HM.out (by omega) (HRR.out _ BD.out)
          obtain ⟨a5, d5, w5, a6, d6, w6, kC⟩ := cp_c (cL := cL) (x := 20 - s) HM.out (by omega) (HRR.out _ BD.out)
          have p0 := HQ0.out _ HB.out
          have p1 := ((below_alloc wr (.cells #[] 3)).cell (p := ⟨b, o, none⟩) (by have := HB.out.size; show b < wr.heap.size; omega)).trans p0
          have p2 := HQ0.out _ (BD.out.trans (kA.b1.mono BD.out.size))
          have hws : IntKind.i64.wrap (20 - s) = 20 - s := by rw [IntKind.wrap_i64]; omega
          have HC := hide fun (W : World) (aR : Option Addr) (cR : Nat) (hR : ARow W aR (R ++ [20 - s])) (a3 : Option Addr) (n2 c2 : Nat) (h3 : t.length = n2) (h2 : n2 ≤ c2) (h : ARow W a3 t) => IH.out a3 aR n2 c2 (k + 1) cR (R ++ [20 - s]) r W h3 (by have := HLT.out; omega) h2 HSZ.out (by rw [List.length_append, HM.out]; rfl) (by have := HLT.out; omega) (It.PosL.snoc HP.out (by omega)) (It.snoc_le HM.out H20.out (by omega)) (by omega) h hR
          have BA := hide (BD.out.trans (kA.b2.mono BD.out.size))
          have BB := hide (BD.out.trans (kB.b2.mono BD.out.size))
          have BC := hide (BD.out.trans (kC.b2.mono BD.out.size))
          have HCA := hide fun n2 h3 c2 h2 => HC.out w2 a2 d2 kA.row _ n2 c2 h3 h2 (HT.out _ BA.out)
          have HCB := hide fun n2 h3 c2 h2 => HC.out w4 a4 d4 kB.row _ n2 c2 h3 h2 (HT.out _ BB.out)
          have HCC := hide fun n2 h3 c2 h2 => HC.out w6 a6 d6 kC.row _ n2 c2 h3 h2 (HT.out _ BC.out)
          have A1 := hide kA.r1
          have A2 := hide kA.r2
          have B1 := hide kB.r1
          have B2 := hide kB.r2
          have C1 := hide kC.r1
          have C2 := hide kC.r2
          clear kA kB kC hD BD HFK IH HC
          go_wp2_with fail
          go_region_law ((first
            | (refine step_append_run9 (by rfl) (.tmp 52) (.tmp 53) 22 22 (by rfl) (.slice (some ⟨wr.drew.heap.size, 0, none⟩) 0 0) (.slice aL k cL) (by simp [go_sem]) (by simp [go_sem]) (.slice a1 k d1) w1 (A1.out _) ?_)
            | (refine step_append_run9 (by rfl) (.tmp 52) (.tmp 53) 22 22 (by rfl) (.slice (some ⟨wr.drew.heap.size, 0, none⟩) 0 0) (.slice aL k cL) (by simp [go_sem]) (by simp [go_sem]) (.slice a3 k d3) w3 (B1.out _) ?_)
            | (refine step_append_run9 (by rfl) (.tmp 52) (.tmp 53) 22 22 (by rfl) (.slice (some ⟨wr.drew.heap.size + 1, 0, none⟩) 0 0) (.slice aL k cL) (by simp [go_sem]) (by simp [go_sem]) (.slice a5 k d5) w5 (C1.out _) ?_)
            | (refine step_append_run9 (by rfl) (.tmp 54) (.tmp 59) 22 22 (by rfl) (.slice a1 k d1) (.slice (some ⟨w1.heap.size, 0, none⟩) 1 1) (by simp [go_sem]) (by simp [go_sem]) (.slice a2 (k + 1) d2) w2 (A2.out _) ?_)
            | (refine step_append_run9 (by rfl) (.tmp 54) (.tmp 59) 22 22 (by rfl) (.slice a3 k d3) (.slice (some ⟨wr.drew.heap.size + 1, 0, none⟩) 1 1) (by simp [go_sem]) (by simp [go_sem]) (.slice a4 (k + 1) d4) w4 (B2.out _) ?_)
            | (refine step_append_run9 (by rfl) (.tmp 54) (.tmp 59) 22 22 (by rfl) (.slice a5 k d5) (.slice (some ⟨wr.drew.heap.size, 0, none⟩) 1 1) (by simp [go_sem]) (by simp [go_sem]) (.slice a6 (k + 1) d6) w6 (C2.out _) ?_)
            | (go_simp; with_reducible show Calls Try.prog _ _ w2 _; refine (HCA.out _ (by have := HLT.out; omega) _ (by omega)).mono ?_; rintro e w9 ⟨r', rfl, hf9, hb9⟩; have hb10 := hide (BA.out.trans (hb9.mono BA.out.size)); clear hb9)
            | (go_simp; with_reducible show Calls Try.prog _ _ w4 _; refine (HCB.out _ (by have := HLT.out; omega) _ (by omega)).mono ?_; rintro e w9 ⟨r', rfl, hf9, hb9⟩; have hb10 := hide (BB.out.trans (hb9.mono BB.out.size)); clear hb9)
            | (go_simp; with_reducible show Calls Try.prog _ _ w6 _; refine (HCC.out _ (by have := HLT.out; omega) _ (by omega)).mono ?_; rintro e w9 ⟨r', rfl, hf9, hb9⟩; have hb10 := hide (BC.out.trans (hb9.mono BC.out.size)); clear hb9)))
          all_goals
            have H1 := hide (HLS.out r' hf9)
            clear hf9
            go_wp2_with fail
            go_ret
            exact ⟨r', rfl, H1.out, hb10.out⟩
set_option maxHeartbeats 1000000 in
theorem sfb_w {a : Option Addr} {n c : Nat} {l : List Int} {w : World} (hx : l.length = n) (hc : n ≤ c) (ha : ARow w a l) :
    Calls Try.prog 21 #[.slice a n c] w fun e w' => e = .returned (.tuple #[.int .i64 (It.fbI l), .bool (It.goodB l)]) ∧ Below w.heap.size w w' := by
  have HX := hide hx
  have HA := hide ha
  unfold It.fbI
  cases hg : It.goodB l
  · have HG := hide hg
    clear hx ha hg
    go_enter Try.func21, Try.ntmps21
    go_wp2_with fail
    refine (sgi_eq HX HA HG).mono ?_
    rintro e w1 ⟨rfl, rfl⟩
    go_wp2_with fail
    refine bodyPost_ret (v := .tuple #[.int .i64 0, .bool false]) (by simp [results, Try.results21, go_sem]) rfl ?_
    exact ⟨rfl, Below.refl _ _⟩
  · have HG := hide hg
    have h9 := It.good_len hg
    rw [hx] at h9
    have HF := hide (fw12 l a none n c 0 0 [] (n + 1) w hx (by omega) hc (fun x hx' => It.good_mem hg hx') rfl (by omega) (fun b hb => absurd hb (Nat.not_lt_zero _)) (fun b hb => absurd hb (Nat.not_lt_zero _)) (by omega) ha (Or.inl rfl))
    have HE : Hid (∀ r, It.FewR l [] (n + 1) r → It.fewN l = r) := hide fun r h => It.few_end (It.good_all20 hg) (by rw [hx]; exact h)
    rw [show (((n + 1 : Nat) : Int)) = (n : Int) + 1 by omega] at HF
    generalize It.fewN l = Q at *
    clear hx ha hg
    go_enter Try.func21, Try.ntmps21
    go_wp2_with fail
    refine (sgi_eq HX HA HG).mono ?_
    rintro e w1 ⟨rfl, hw1⟩
    obtain rfl : w = w1 := hw1.symm
    go_wp2_with fail
    refine HF.out.mono ?_
    rintro e w1 ⟨r, rfl, hr, hb⟩
    have HQ := hide (HE.out r hr)
    clear hr HF
    go_wp2_with fail
    refine bodyPost_ret (v := .tuple #[.int .i64 (r : Nat), .bool true]) (by simp [results, Try.results21, go_sem]) rfl ?_
    exact ⟨by rw [HQ.out], hb⟩
end Go.Proofs.Ytoalcmfpbjmapaa
