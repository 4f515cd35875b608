/-
  Offers in memory; what isOffer and GoodOffers of the program and of the model answer over them.
-/
import Derived.Test.YtdlpbemjbmgbeaaPa
import Derived.Test.YtdlpbemjbmgbeaaCa
namespace Go.Proofs.Ytdlpbemjbmgbeaa
open Go.RowKit

/-- Offers, to be read: a list of lists. -/
def ORow (w : World) (a : Option Addr) (L : List (List Int)) : Prop :=
  L = [] ∨ ∃ b off, a = some ⟨b, off, none⟩ ∧ b < w.heap.size ∧ ∀ i, i < L.length → ∃ ai ci, w.cell? ⟨b, off + i, none⟩ = some (.slice ai (L.getD i []).length ci) ∧ ARow w ai (L.getD i [])
theorem ORow.below {w w' : World} {a : Option Addr} {L : List (List Int)} (h : ORow w a L) (hb : Below w.heap.size w w') : ORow w' a L := by
  rcases h with h | ⟨b, off, ha, hl, hc⟩
  · exact Or.inl h
  · refine Or.inr ⟨b, off, ha, Nat.lt_of_lt_of_le hl hb.size, fun i hi => ?_⟩
    obtain ⟨ai, ci, h1, h2⟩ := hc i hi
    exact ⟨ai, ci, (hb.cell (p := ⟨b, off + i, none⟩) hl).trans h1, h2.below hb⟩
theorem ORow.at {w : World} {a : Option Addr} {L : List (List Int)} (h : ORow w a L) {i : Nat} (hi : i < L.length) : ∃ b off ai ci, a = some ⟨b, off, none⟩ ∧ b < w.heap.size ∧ w.cell? ⟨b, off + i, none⟩ = some (.slice ai (L.getD i []).length ci) ∧ ARow w ai (L.getD i []) := by
  rcases h with h | ⟨b, off, ha, hl, hc⟩
  · rw [h] at hi; simp at hi
  · obtain ⟨ai, ci, h1, h2⟩ := hc i hi
    exact ⟨b, off, ai, ci, ha, hl, h1, h2⟩
theorem o_below_new (w : World) (o : Obj) : Below w.heap.size w (w.alloc o) := (Below.refl _ _).alloc (Nat.le_refl _) o

set_option maxRecDepth 100000 in
set_option maxHeartbeats 1000000 in
theorem isOff_any {a : Option Addr} {n c : Nat} {o : List Int} {w : World} (hn : o.length = n) (h : ARow w a o) :
    Calls Try.prog 36 #[.agg #[.slice a n c]] w fun e w' => e = .returned (.bool (Of.offB o)) ∧ Below w.heap.size w w' := by
  by_cases h6 : n ≤ 6
  · have i6 : (n : Int) ≤ 6 := by omega
    have H : Hid (∀ x, Calls Try.prog 44 #[.slice a n c, .int .i64 (-1000), .int .i64 1000] (w.alloc x) fun e w' => e = .returned (.bool (Pf.allB o (-1000) 1000)) ∧ w' = w.alloc x) := hide fun x => by subst hn; exact areb_any (h.alloc x) (by omega)
    have HE : Hid (Of.offB o = Pf.allB o (-1000) 1000) := hide (Of.offB_short hn h6)
    generalize Pf.allB o (-1000) 1000 = r at *
    clear h hn
    cases r
    · go_enter Try.func36, Try.ntmps36
      go_wp2_with ((go_at_call 44; refine (H.out _).mono ?_; rintro e w1 ⟨rfl, rfl⟩))
      go_ret
      exact ⟨ret_bool HE.out.symm, (Below.refl _ _).alloc (Nat.le_refl _) _⟩
    · go_enter Try.func36, Try.ntmps36
      go_wp2_with ((go_at_call 44; refine (H.out _).mono ?_; rintro e w1 ⟨rfl, rfl⟩))
      go_ret
      exact ⟨ret_bool HE.out.symm, (Below.refl _ _).alloc (Nat.le_refl _) _⟩
  · have i6 : ¬ (n : Int) ≤ 6 := by omega
    have HE : Hid (Of.offB o = false) := hide (Of.offB_long hn h6)
    clear h hn
    go_enter Try.func36, Try.ntmps36
    go_wp2_with fail
    go_ret
    exact ⟨ret_bool HE.out.symm, (Below.refl _ _).alloc (Nat.le_refl _) _⟩

set_option maxRecDepth 100000 in
set_option maxHeartbeats 400000 in
theorem gof_many {a : Option Addr} {n c : Nat} {w : World} (h : 12 < n) :
    Calls Try.prog 11 #[.slice a n c] w fun e w' => e = .returned (.bool false) ∧ Below w.heap.size w w' := by
  have h2 : (12 : Int) < n := by omega
  go_enter Try.func11, Try.ntmps11
  go_wp2_with fail
  go_ret
  exact ⟨rfl, Below.refl _ _⟩
set_option maxRecDepth 100000 in
set_option maxHeartbeats 1000000 in
theorem gof_some {a : Option Addr} {n c : Nat} {L : List (List Int)} {w : World} (hn : L.length = n) (h12 : n ≤ 12) (h : ORow w a L) :
    Calls Try.prog 11 #[.slice a n c] w fun e w' => e = .returned (.bool (Of.offersB L)) ∧ Below w.heap.size w w' := by
  have H := hide h
  have HN := hide hn
  have h2 : ¬ (12 : Int) < n := by omega
  clear h hn
  go_enter Try.func11, Try.ntmps11
  go_wp2_with fail
  go_loopw [2, 4, 10] (fun s2 _ s wr => ∃ k : Nat, s2 = .bool false ∧ s = .int .i64 k ∧ k ≤ n ∧ Hid (∀ i, i < k → Of.offB (L.getD i []) = true) ∧ Hid (Below w.heap.size w wr)) (fun _ _ s _ => n - (intOf s).toNat)
  case atStart => exact ⟨0, rfl, rfl, Nat.zero_le _, hide fun i hi => absurd hi (Nat.not_lt_zero _), hide (Below.refl _ _)⟩
  case round =>
    obtain ⟨k, rfl, rfl, hk, HG, HB⟩ := hrel
    by_cases hlt : k < n
    · obtain ⟨b, off, ai, ci, rfl, hb, r1, R1⟩ := (H.out.below HB.out).at (i := k) (by rw [HN.out]; exact hlt)
      have i0 : (0 : Int) ≤ (k : Int) := by omega
      have i1 : (k : Int) < (n : Int) := by omega
      have HC := hide (fun (x : Obj) => isOff_any (c := ci) rfl (R1.alloc x))
      have HO := hide (rfl : Of.offB (L.getD k []) = Of.offB (L.getD k []))
      generalize (L.getD k []).length = m at *
      cases ho : Of.offB (L.getD k [])
      · rw [ho] at HC
        have HE := hide (Of.offersB_not ho)
        clear R1 ho
        go_wp2_with fail
        refine (HC.out _).mono ?_
        rintro e w1 ⟨rfl, hb1⟩
        go_wp2_with fail
        go_ret
        exact ⟨ret_bool HE.out.symm, HB.out.trans (((o_below_new _ _).trans (hb1.mono (by simp))).mono HB.out.size)⟩
      · rw [ho] at HC
        have HG' : Hid (∀ i, i < k + 1 → Of.offB (L.getD i []) = true) := hide fun i hi => by
          by_cases e : i = k
          · subst e; exact ho
          · exact HG.out i (by omega)
        clear R1 ho
        go_wp2_with fail
        refine (HC.out _).mono ?_
        rintro e w1 ⟨rfl, hb1⟩
        go_wp2_with fail
        go_roundw
        case rel => exact ⟨k + 1, rfl, by go_num, by omega, HG', hide (HB.out.trans (((o_below_new _ _).trans (hb1.mono (by simp))).mono HB.out.size))⟩
        case measure => simp only [intOf]; omega
    · have hke : k = n := by omega
      subst hke
      have HE := hide (Of.offersB_of (by rw [HN.out]; exact h12) (fun i hi => HG.out i (by rw [← HN.out]; exact hi)))
      go_wp2_with fail
      go_ret
      exact ⟨ret_bool HE.out.symm, HB.out⟩
theorem gof_any {a : Option Addr} {n c : Nat} {L : List (List Int)} {w : World} (hn : L.length = n) (h : ORow w a L) :
    Calls Try.prog 11 #[.slice a n c] w fun e w' => e = .returned (.bool (Of.offersB L)) ∧ Below w.heap.size w w' := by
  by_cases h12 : n ≤ 12
  · exact gof_some hn h12 h
  · rw [Of.offersB_many (by omega)]; exact gof_many (by omega)

theorem all_b {a : Option Addr} {n c : Nat} {xs : List Int} {lo hi : Int} {w : World} (hn : xs.length = n) (h : ARow w a xs) (hl : n ≤ 4000000000000) :
    Calls Try.prog 37 #[.slice a n c, .int .i64 lo, .int .i64 hi] w fun e w' => e = .returned (.bool (Pf.allB xs lo hi)) ∧ w' = w := by
  subst hn; exact all_any h hl
set_option maxRecDepth 100000 in
set_option maxHeartbeats 2000000 in
theorem sgof_any {a : Option Addr} {n c : Nat} {L : List (List Int)} {w : World} (hn : L.length = n) (hm : n ≤ 1048576) (h : ORow w a L) :
    Calls Try.prog 12 #[.slice a n c] w fun e w' => e = .returned (.bool (Of.offersB L)) ∧ Below w.heap.size w w' := by
  have H := hide h
  have HN := hide hn
  clear h hn
  go_enter Try.func12, Try.ntmps12
  go_wp2_with fail
  go_loopw [2, 4, 7] (fun s2 _ s wr => ∃ k : Nat, s2 = .bool false ∧ s = .int .i64 k ∧ k ≤ n ∧ Hid (∀ i, i < k → Of.offB (L.getD i []) = true) ∧ Hid (Below w.heap.size w wr)) (fun _ _ s _ => n - (intOf s).toNat)
  case atStart => exact ⟨0, rfl, rfl, Nat.zero_le _, hide fun i hi => absurd hi (Nat.not_lt_zero _), hide (Below.refl _ _)⟩
  case round =>
    obtain ⟨k, rfl, rfl, hk, HG, HB⟩ := hrel
    by_cases hlt : k < n
    · obtain ⟨b, off, ai, ci, rfl, hb, r1, R1⟩ := (H.out.below HB.out).at (i := k) (by rw [HN.out]; exact hlt)
      have i0 : (0 : Int) ≤ (k : Int) := by omega
      have i1 : (k : Int) < (n : Int) := by omega
      have HB1 := hide fun (x : Obj) => HB.out.trans ((o_below_new wr x).mono HB.out.size)
      generalize hm' : (L.getD k []).length = m at *
      by_cases h6 : m ≤ 6
      · have HC := hide (fun (x : Obj) => all_b (c := ci) (lo := -1000) (hi := 1000) hm' (R1.alloc x) (by omega))
        have e1 := Of.offB_short hm' h6
        have i6 : ¬ (6 : Int) < m := by omega
        cases ho : Pf.allB (L.getD k []) (-1000) 1000
        · rw [ho] at HC e1
          have HE := hide (Of.offersB_not e1)
          clear R1 ho e1 hm' h6
          go_wp2_with ((go_at_call 37; refine (HC.out _).mono ?_; rintro e w1 ⟨rfl, rfl⟩))
          go_ret
          exact ⟨ret_bool HE.out.symm, HB1.out _⟩
        · rw [ho] at HC e1
          have HG' : Hid (∀ i, i < k + 1 → Of.offB (L.getD i []) = true) := hide fun i hi => by
            by_cases e : i = k
            · subst e; exact e1
            · exact HG.out i (by omega)
          clear R1 ho e1 hm' h6
          go_wp2_with ((go_at_call 37; refine (HC.out _).mono ?_; rintro e w1 ⟨rfl, rfl⟩))
          go_roundw
          case rel => exact ⟨k + 1, rfl, by go_num, by omega, HG', hide (HB1.out _)⟩
          case measure => simp only [intOf]; omega
      · have i6 : (6 : Int) < m := by omega
        have HE := hide (Of.offersB_not (L := L) (i := k) (Of.offB_long hm' h6))
        clear R1 hm' h6
        go_wp2_with fail
        go_ret
        exact ⟨ret_bool HE.out.symm, HB1.out _⟩
    · have hke : k = n := by omega
      subst hke
      by_cases h12 : k ≤ 12
      · have HE := hide (Of.offersB_of (by rw [HN.out]; exact h12) (fun i hi => HG.out i (by rw [← HN.out]; exact hi)))
        have i12 : (k : Int) ≤ 12 := by omega
        go_wp2_with fail
        go_ret
        exact ⟨ret_bool HE.out.symm, HB.out⟩
      · have HE := hide (Of.offersB_many (L := L) (by rw [HN.out]; omega))
        have i12 : ¬ (k : Int) ≤ 12 := by omega
        go_wp2_with fail
        go_ret
        exact ⟨ret_bool HE.out.symm, HB.out⟩
end Go.Proofs.Ytdlpbemjbmgbeaa
