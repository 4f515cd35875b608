/-
  What l6Rows of the model answers: the best tables of the first offers, from none on.
-/
import Derived.Test.YtdlpbemjbmgbeaaCk
namespace Go.Proofs.Ytdlpbemjbmgbeaa
open Go.RowKit

def tl (L : List (List Int)) (P k : Nat) : List (List Int) := (List.range (k + 1)).map fun i => Of.tab (L.take i) P
theorem tl_len (L : List (List Int)) (P k : Nat) : (tl L P k).length = k + 1 := by simp [tl]
theorem tl_at (L : List (List Int)) (P : Nat) {k i : Nat} (h : i ≤ k) : (tl L P k).getD i [] = Of.tab (L.take i) P := by simp [tl, show i < k + 1 by omega]
theorem tl_snoc (L : List (List Int)) (P k : Nat) : tl L P (k + 1) = tl L P k ++ [Of.tab (L.take (k + 1)) P] := by
  unfold tl; rw [List.range_succ, List.map_append]; rfl
theorem infoS : ∃ i, Try.prog.info? 26 = some i ∧ i.zero = some (.slice none 0 0) ∧ i.size = 1 ∧ i.bytes = 24 := by
  have h : (Try.prog.info? 26).map (fun i => (i.zero, i.size, i.bytes)) = some (some (.slice none 0 0), 1, 24) := by kernel_rfl
  obtain ⟨i, hi, hzz⟩ := Option.map_eq_some_iff.1 h
  simp only [Prod.mk.injEq] at hzz
  exact ⟨i, hi, hzz.1, hzz.2.1, hzz.2.2⟩
theorem newS_one' (w : World) (v : Value) (t : TypeId) {H : Nat} (hH : w.heap.size = H) : ∀ (j : Nat) (u : Value), ([v] : List Value)[j]? = some u → (w.alloc (.cells #[v] t)).cell? ((⟨H, 0, none⟩ : Addr).add j) = some u := by
  intro j u hj
  subst hH
  match j, hj with
  | 0, hj => simp at hj; subst hj; simp [Addr.add]
theorem qv_cells (n : Nat) (g : Nat × Nat) : ∀ u ∈ ([qv n g] : List Value), u.oneCell' = true := by
  intro u hu
  simp at hu
  subst hu; rfl
/-- The offer at hand and the row that is being made. -/
structure NI (w0 wi : World) (V M m ci : Nat) (ai : Option Addr) (nx : List Int) : Prop where
  next : wi.ownsRow V 3 1 (.slice (some ⟨V + 1, 0, none⟩) M M) M (ints nx)
  off : wi.cell? ⟨V, 0, none⟩ = some (.slice ai m ci)
  bel : Below V w0 wi
  lt : V + 1 < wi.heap.size
theorem NI.below {w0 wi w' : World} {V M m ci : Nat} {ai : Option Addr} {nx : List Int} (h : NI w0 wi V M m ci ai nx) (hb : Below wi.heap.size wi w') : NI w0 w' V M m ci ai nx :=
  ⟨o_own h.next hb, (hb.cell (p := ⟨V, 0, none⟩) (by show V < _; have := h.lt; omega)).trans h.off, h.bel.trans (hb.mono (by have := h.lt; omega)), Nat.lt_of_lt_of_le h.lt hb.size⟩
theorem NI.store {w0 wi : World} {V M m ci t : Nat} {ai : Option Addr} {nx nx' : List Int} {x : Int} (h : NI w0 wi V M m ci ai nx) (he : nx.set t x = nx') : NI w0 (wi.setCell ⟨V + 1, t, none⟩ (.int .i64 x)) V M m ci ai nx' := by
  obtain ⟨s1, s2⟩ := h.next.stored t (.int .i64 x)
  rw [ints_set, he] at s1
  exact ⟨s1, (World.cell?_of_block (a := ⟨V, 0, none⟩) (s2.block V (by have := h.lt; omega) (by simp))).trans h.off, h.bel.trans (grown_below' s2 (by omega) (by have := h.lt; omega)), by simpa using h.lt⟩
theorem QOwn.first (w : World) (M : Nat) (xs : List Int) (hM : M ≤ 1000) (hx : xs = List.replicate M 0) :
    QOwn ((w.alloc (.cells (madeCells #[.int .i64 0] M) 3)).alloc (.cells #[.slice (some ⟨w.heap.size, 0, none⟩) M M] 26)) w.heap.size M (0 + 1) (.slice (some ⟨w.heap.size + 1, 0, none⟩) (0 + 1) 1) [(w.heap.size, M)] [xs] := by
  have h1 := made_own w M (by omega)
  have h2 := o_own h1 (o_below_new _ (.cells #[.slice (some ⟨w.heap.size, 0, none⟩) M M] 26))
  have h3 := World.ownsRow_lit (base := w.heap.size) (e := 26) (size := 1) (w.alloc (.cells (madeCells #[.int .i64 0] M) 3)) #[.slice (some ⟨w.heap.size, 0, none⟩) M M] 1 (by simp) (by unfold maxLen; omega) (by simp)
  rw [World.size_alloc] at h3
  refine ⟨rfl, rfl, h3, fun i hi => ?_, by simp, fun g hg => ?_⟩
  · have : i = 0 := by omega
    subst this
    subst hx
    exact ⟨by simp, h2⟩
  · simp [Value.ownBlock] at hg ⊢
    omega

set_option maxRecDepth 100000 in
set_option maxHeartbeats 8000000 in
theorem rows_any {a : Option Addr} {n d M P : Nat} {L : List (List Int)} {w : World} (hn : L.length = n) (hM : P + 1 = M) (hM' : M ≤ 1000) (hg : Of.offersB L = true) (hL : ORow w a L) :
    Calls Try.prog 33 #[.slice a n d, .int .i64 P] w fun e w' => ∃ G C gs, e = .returned (.slice (some ⟨G, 0, none⟩) (n + 1) C) ∧ Below w.heap.size w w' ∧ QOwn w' w.heap.size M (n + 1) (.slice (some ⟨G, 0, none⟩) (n + 1) C) gs (tl L P n) := by
  obtain ⟨i0, hi, hz0, hz1, hz2⟩ := infoS
  have h12 := Of.offersB_len hg
  rw [hn] at h12
  have hmi : ∀ w : World, (Instr.makeSlice 26 (.int .i64 ((P : Int) + 1)) (.int .i64 ((P : Int) + 1))).run Try.prog w = .ok (.slice (some ⟨w.heap.size, 0, none⟩) M M) (w.alloc (.cells (madeCells #[.int .i64 0] M) 3)) := fun w => by
    have e : ((M : Nat) : Int) = (P : Int) + 1 := by omega
    rw [← e]; exact makeI_run M (by omega) w
  have hP : P ≤ 1000 := by omega
  have HN := hide hn
  have HG := hide hg
  have HL := hide hL
  have HM := hide hM
  have HQ0 : Hid (QOwn ((w.alloc (.cells (madeCells #[.int .i64 0] M) 3)).alloc (.cells #[.slice (some ⟨w.heap.size, 0, none⟩) M M] 26)) w.heap.size M (0 + 1) (.slice (some ⟨w.heap.size + 1, 0, none⟩) (0 + 1) 1) [(w.heap.size, M)] (tl L P 0)) := hide (QOwn.first w M _ hM' (by rw [← hM]; rfl))
  have HB0 : Hid (Below w.heap.size w ((w.alloc (.cells (madeCells #[.int .i64 0] M) 3)).alloc (.cells #[.slice (some ⟨w.heap.size, 0, none⟩) M M] 26))) := hide (((Below.refl _ _).alloc (Nat.le_refl _) _).alloc (by simp) _)
  have HTL : Hid (∀ k, (Of.tab (L.take k) P).length = M) := hide fun k => by rw [Of.tab_len, hM]
  clear hL hn hg hM
  go_enter Try.func33, Try.ntmps33
  go_wp2_with fail
  go_loopw [5, 6, 8, 9, 10, 11, 12, 13, 21] (fun s5 s6 _ _ _ _ _ _ s wr => ∃ (k G C g cap : Nat) (gs : List (Nat × Nat)), s = .int .i64 k ∧ s6 = .slice (some ⟨G, 0, none⟩) (k + 1) C ∧ s5 = .slice (some ⟨g, 0, none⟩) M cap ∧ k ≤ n ∧ Hid (gs.getD k (0, 0) = (g, cap)) ∧ Hid (QOwn wr w.heap.size M (k + 1) (.slice (some ⟨G, 0, none⟩) (k + 1) C) gs (tl L P k)) ∧ Hid (Below w.heap.size w wr)) (fun _ _ _ _ _ _ _ _ s _ => n - (intOf s).toNat)
  case atStart => exact ⟨0, w.heap.size + 1, 1, w.heap.size, M, [(w.heap.size, M)], rfl, rfl, rfl, Nat.zero_le _, hide rfl, HQ0, HB0⟩
  case round =>
    obtain ⟨k, G, C, g, cap, gs, rfl, rfl, rfl, hk, HGK, HQ, HB⟩ := hrel
    clear HQ0 HB0
    by_cases hlt : k < n
    · obtain ⟨b, off, ai, ci, rfl, hb, r1, R1⟩ := (HL.out.below HB.out).at (i := k) (by rw [HN.out]; exact hlt)
      have i0' : (0 : Int) ≤ (k : Int) := by omega
      have i1' : (k : Int) < (n : Int) := by omega
      have HO := hide (Of.offersB_at HG.out k)
      have hm6 := (Of.offB_yes HO.out).1
      have HRB := hide (Of.tab_bd12 HG.out P k)
      have HST : Hid (Of.tab (L.take (k + 1)) P = Of.step (L.getD k []) (Of.tab (L.take k) P)) := hide (Of.tab_take L P (by rw [HN.out]; exact hlt))
      have HMX : Hid (∀ t, t < M → (Of.tab (L.take (k + 1)) P).getD t 0 = Of.best (L.getD k []) (Of.tab (L.take k) P) t) := hide fun t ht => by rw [HST.out, Of.step_at _ _ (by rw [HTL.out]; exact ht)]
      have HOLD : Hid (ARow wr (some ⟨g, 0, none⟩) (Of.tab (L.take k) P)) := hide (by
        obtain ⟨e1, e2⟩ := HQ.out.2.2.2.1 k (by omega)
        rw [tl_at L P (Nat.le_refl k)] at e1 e2
        rw [HGK.out] at e2
        exact arow_owns e1.symm e2)
      have hgl : g < wr.heap.size := by
        have h1 := HQ.out.at_mem (i := k) (by omega)
        rw [HGK.out] at h1
        exact (HQ.out.lt h1).2
      have HNI : Hid (NI wr ((wr.alloc (.cells #[.slice ai (L.getD k []).length ci] 36)).alloc (.cells (madeCells #[.int .i64 0] M) 3)) wr.heap.size M (L.getD k []).length ci ai (List.replicate M 0)) := hide (by
        have h1 := made_own (wr.alloc (.cells #[.slice ai (L.getD k []).length ci] 36)) M (by omega)
        rw [World.size_alloc] at h1
        exact ⟨owns_low h1 (by omega), by simp [go_sem], ((Below.refl _ _).alloc (Nat.le_refl _) _).alloc (by simp) _, by simp⟩)
      have HGN := hide fun (j : Nat) (hj : j ≤ (L.getD k []).length) (w' : World) (hb : Below wr.heap.size wr w') => gn_any (c := ci) (k := j) rfl hj (by omega) (R1.below hb)
      have HBDG := hide fun j : Nat => Of.gain_bd HO.out j
      have HSN := hide (tl_snoc L P k)
      have HOL := hide (HTL.out k)
      have HNL := hide (HTL.out (k + 1))
      have HSZ := HB.out.size
      obtain ⟨V, hV⟩ : ∃ V, wr.heap.size = V := ⟨_, rfl⟩
      have HV := hide hV
      generalize L.getD k [] = o at *
      generalize hmm : o.length = m at *
      have HMM := hide hmm
      generalize Of.tab (L.take k) P = old at *
      generalize Of.tab (L.take (k + 1)) P = new at *
      clear HST R1
      go_wp2_with fail
      rw [hV] at HNI HGN HSZ hgl hb
      clear hV hmm
      go_loopw [10, 11, 12, 13, 30] (fun _ _ _ _ s wi => ∃ (t : Nat), s = .int .i64 t ∧ t ≤ M ∧ Hid (NI wr wi V M m ci ai (mix new (List.replicate M 0) t))) (fun _ _ _ _ s _ => M - (intOf s).toNat)
      case atStart => exact ⟨0, rfl, Nat.zero_le _, hide (by rw [mix_zero]; exact HNI.out)⟩
      case round =>
        obtain ⟨t, rfl, ht, HI⟩ := hrel
        clear HNI
        by_cases htm : t < M
        · have t0' : (0 : Int) ≤ (t : Int) := by omega
          have t1' : (t : Int) < (M : Int) := by omega
          have c1 : wr.cell? ⟨g, t, none⟩ = some (.int .i64 (old.getD t 0)) := by
            rcases HOLD.out with h | ⟨bb, ob, e, _, hc⟩
            · have := HOL.out; rw [h] at this; simp at this; omega
            · cases e
              have := (HI.out.bel.cell (p := ⟨g, 0 + t, none⟩) hgl).trans (hc t (by rw [HOL.out]; exact htm))
              rwa [Nat.zero_add] at this
          have hb0 := HRB.out t
          have HX0 : Hid (old.getD t 0 = Of.bst o old t (1 - 1)) := hide rfl
          generalize old.getD t 0 = x0 at *
          obtain ⟨x00, x01⟩ := hb0
          go_wp2_with fail
          have hOW := HI.out.bel
          go_loopw [11, 12, 13] (fun s11 s12 _ wi => ∃ (q : Nat) (y : Int), s11 = .int .i64 y ∧ s12 = .int .i64 q ∧ 1 ≤ q ∧ q ≤ min m t + 1 ∧ Hid (y = Of.bst o old t (q - 1)) ∧ 0 ≤ y ∧ y ≤ 13000 ∧ Hid (NI _ wi V M m ci ai (mix new (List.replicate M 0) t))) (fun _ s _ _ => m + 1 - (intOf s).toNat)
          case atStart => exact ⟨1, x0, rfl, rfl, Nat.le_refl _, by omega, HX0, by omega, by omega, HI⟩
          case round =>
            obtain ⟨q, y, rfl, rfl, hq1, hq2, HY, y0, y1, HI⟩ := hrel
            have c7 := HI.out.off
            by_cases hqm : q ≤ m
            · have i1 : (q : Int) ≤ (m : Int) := by omega
              by_cases hqt : q ≤ t
              · have i2 : (q : Int) ≤ (t : Int) := by omega
                have j0 : (0 : Int) ≤ (t : Int) - (q : Int) := by omega
                have j1 : (t : Int) - (q : Int) < (M : Int) := by omega
                have c2 : wr.cell? ⟨g, t - q, none⟩ = some (.int .i64 (old.getD (t - q) 0)) := by
                  rcases HOLD.out with h | ⟨bb, ob, e, _, hc⟩
                  · have := HOL.out; rw [h] at this; simp at this; omega
                  · cases e
                    have := (HI.out.bel.cell (p := ⟨g, 0 + (t - q), none⟩) hgl).trans (hc (t - q) (by rw [HOL.out]; omega))
                    rwa [Nat.zero_add] at this
                have hbz := HRB.out (t - q)
                have hbx := HBDG.out q
                have hcall := hide fun (w' : World) (hb : Below wr.heap.size wr w') => HGN.out q hqm w' (HI.out.bel.trans (hb.mono (by have := HI.out.lt; omega)))
                have HS : Hid (Of.bst o old t q = max y (old.getD (t - q) 0 + Of.gain o q)) := hide (by
                  obtain ⟨q', rfl⟩ : ∃ q', q = q' + 1 := ⟨q - 1, by omega⟩
                  rw [HY.out, Of.bst_succ]; rfl)
                have hgw : g < wr.heap.size := by have := HI.out.lt; omega
                have hVw : V < wr.heap.size := by have := HI.out.lt; omega
                generalize old.getD (t - q) 0 = z at *
                generalize Of.gain o q = x at *
                obtain ⟨z0, z1⟩ := hbz
                obtain ⟨x10, x11⟩ := hbx
                have e1 : IntKind.i64.wrap (z + x) = z + x := by rw [IntKind.wrap_i64]; omega
                have e2 : IntKind.i64.wrap ((t : Int) - (q : Int)) = (t : Int) - (q : Int) := by rw [IntKind.wrap_i64]; omega
                go_wp2_with fail
                go_region_held3 (fun w' => w'.cell? ⟨g, t - q, none⟩ = some (.int .i64 z) ∧ w'.cell? ⟨V, 0, none⟩ = some (.slice ai m ci) ∧ Below wr.heap.size wr w' ∧ wr.heap.size ≤ w'.heap.size)
                  (first | exact ⟨c2, c7, (Below.refl _ _).drew, Nat.le_refl _⟩ | assumption | exact two_call hgw hVw ‹_› (by assumption) | fail)
                  (first | (go_at_call 34; obtain ⟨_, _, hbS, _⟩ := ‹_ ∧ _ ∧ _ ∧ _›; refine (hcall.out _ hbS).mono ?_; rintro e w3 ⟨rfl, hb3⟩) | fail)
                obtain ⟨_, _, hbE, _⟩ := ‹_ ∧ _ ∧ _ ∧ _›
                have HIE := hide (HI.out.below hbE)
                by_cases hmax : y < z + x
                · have HE : Hid (z + x = Of.bst o old t (q + 1 - 1)) := hide (by rw [Nat.add_sub_cancel, HS.out]; omega)
                  go_wp2_with fail
                  go_roundw
                  case rel => exact ⟨q + 1, z + x, rfl, by go_num, by omega, by omega, HE, by omega, by omega, HIE⟩
                  case measure => simp only [intOf]; omega
                · have HE : Hid (y = Of.bst o old t (q + 1 - 1)) := hide (by rw [Nat.add_sub_cancel, HS.out]; omega)
                  go_wp2_with fail
                  go_roundw
                  case rel => exact ⟨q + 1, y, rfl, by go_num, by omega, by omega, HE, by omega, by omega, HIE⟩
                  case measure => simp only [intOf]; omega
              · have i2 : ¬ (q : Int) ≤ (t : Int) := by omega
                have HE : Hid (y = new.getD t 0) := hide (by
                  rw [HMX.out t htm, HY.out]
                  unfold Of.best
                  rw [HMM.out, show min m t = q - 1 by omega])
                have HI2 := hide (HI.out.store (mix_set (new := new) (old := List.replicate M 0) (t := t)))
                rw [← HE.out] at HI2
                have c0 : wr.cell? ⟨V + 1, t, none⟩ = some (.int .i64 ((mix new (List.replicate M 0) t).getD t 0)) := by
                  rw [HI.out.next.cellAt t (by omega), ints_get _ t (by rw [mix_len]; simpa using htm)]
                have f0 := HI.out.next.frozenAt t
                go_wp2_with fail
                go_roundw
                case rel => exact ⟨t + 1, by go_num, by omega, HI2⟩
                case measure => simp only [intOf]; omega
            · have i1 : ¬ (q : Int) ≤ (m : Int) := by omega
              have HE : Hid (y = new.getD t 0) := hide (by
                rw [HMX.out t htm, HY.out]
                unfold Of.best
                rw [HMM.out, show min m t = q - 1 by omega])
              have HI2 := hide (HI.out.store (mix_set (new := new) (old := List.replicate M 0) (t := t)))
              rw [← HE.out] at HI2
              have c0 : wr.cell? ⟨V + 1, t, none⟩ = some (.int .i64 ((mix new (List.replicate M 0) t).getD t 0)) := by
                rw [HI.out.next.cellAt t (by omega), ints_get _ t (by rw [mix_len]; simpa using htm)]
              have f0 := HI.out.next.frozenAt t
              go_wp2_with fail
              go_roundw
              case rel => exact ⟨t + 1, by go_num, by omega, HI2⟩
              case measure => simp only [intOf]; omega
        · have hte : t = M := by omega
          have HNX : Hid (wr.ownsRow V 3 1 (qv M (V + 1, M)) M (ints new)) := hide (by
            have h1 := HI.out.next
            rw [hte, mix_all (by rw [HNL.out]; simp) (by simp)] at h1
            exact h1)
          have HBV := hide HI.out.bel
          have hs1 : V ≤ wr.heap.size := by have := HI.out.lt; omega
          have N1 := hide (HQ.out.below (by rw [HV.out]; exact HBV.out))
          clear hte
          go_wp2_with (first
            | (at_builtin; refine wpList_append_lies _ rfl _ _ 51 rfl w.heap.size 26 i0 (.slice none 0 0) 1 24 Try.underlying51 hi hz0 hz1 hz2 rfl (by decide) _ _ _ rfl (N1.out.2.2.1.alloc _) ⟨wr.heap.size, 0, none⟩ 1 1 [qv M (V + 1, M)] rfl rfl (newS_one' _ _ _ rfl) (qv_cells _ _) (by omega) (by unfold maxLen; omega) (by omega) (by simp; omega) (wr.heap.size + 1) (by simp) ?_))
          intro G' C' w4 own4 hg4 hat4 hlt4
          obtain ⟨N4, B4⟩ := QOwn.snoc HQ.out (by rw [HV.out]; exact HBV.out) (by rw [HV.out]; exact HSZ) (by rw [HV.out]; exact HNX.out) HNL.out own4 hg4 hat4
          rw [← HSN.out] at N4
          have HN4 := hide N4
          have HB4 := hide (HB.out.trans B4)
          have HGE : Hid ((gs ++ [(V + 1, M)]).getD (k + 1) (0, 0) = (V + 1, M)) := hide (by simp [← HQ.out.1])
          clear N4 own4 hg4 B4
          go_wp2_with fail
          go_roundw
          case rel => exact ⟨k + 1, G', C', V + 1, M, gs ++ [(V + 1, M)], by go_num, rfl, rfl, by omega, HGE, HN4, HB4⟩
          case measure => simp only [intOf]; omega
    · have hke : k = n := by omega
      subst hke
      clear hmi
      go_wp2_with fail
      go_ret
      exact ⟨G, C, gs, rfl, HB.out, HQ.out⟩
end Go.Proofs.Ytdlpbemjbmgbeaa
