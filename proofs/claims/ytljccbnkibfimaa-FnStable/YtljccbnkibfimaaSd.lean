/-
  What greatestGain of the program, l4Gain and l4Next of the model, and both NextFor and GainOf answer.
-/
import Derived.Test.YtljccbnkibfimaaSc
namespace Go.Proofs.Ytljccbnkibfimaa
open Go.RowKit

/-- One number of each of two lists, and all that was there, while an answer is made. -/
theorem two_call {w w1 w2 : World} {ba oa bb ob : Nat} {v1 v2 : Option Value} (ha : ba < w.heap.size) (hb : bb < w.heap.size)
    (s : w1.cell? ⟨ba, oa, none⟩ = v1 ∧ w1.cell? ⟨bb, ob, none⟩ = v2 ∧ Below w.heap.size w w1 ∧ w.heap.size < w1.heap.size) (h : Below w1.heap.size w1 w2) :
    w2.cell? ⟨ba, oa, none⟩ = v1 ∧ w2.cell? ⟨bb, ob, none⟩ = v2 ∧ Below w.heap.size w w2 ∧ w.heap.size < w2.heap.size := by
  obtain ⟨s1, s2, s3, s4⟩ := s
  obtain ⟨hc, _⟩ := bcell h
  exact ⟨(hc _ _ (by omega)).trans s1, (hc _ _ (by omega)).trans s2, s3.trans (h.mono s3.size), Nat.lt_of_lt_of_le s4 h.size⟩
theorem two_set {w w1 : World} {ba oa bb ob i : Nat} {v : Value} {v1 v2 : Option Value} (ha : ba < w.heap.size) (hb : bb < w.heap.size)
    (s : w1.cell? ⟨ba, oa, none⟩ = v1 ∧ w1.cell? ⟨bb, ob, none⟩ = v2 ∧ Below w.heap.size w w1 ∧ w.heap.size < w1.heap.size) :
    (w1.setCell ⟨w.heap.size, i, none⟩ v).cell? ⟨ba, oa, none⟩ = v1 ∧ (w1.setCell ⟨w.heap.size, i, none⟩ v).cell? ⟨bb, ob, none⟩ = v2 ∧ Below w.heap.size w (w1.setCell ⟨w.heap.size, i, none⟩ v) ∧ w.heap.size < (w1.setCell ⟨w.heap.size, i, none⟩ v).heap.size := by
  obtain ⟨s1, s2, s3, s4⟩ := s
  have hc : ∀ x o, x ≠ w.heap.size → (w1.setCell ⟨w.heap.size, i, none⟩ v).cell? ⟨x, o, none⟩ = w1.cell? ⟨x, o, none⟩ := fun x o h => World.cell?_setCell_other _ _ _ _ (fun e => h (by injection e with e1; exact e1.symm))
  exact ⟨(hc _ _ (by omega)).trans s1, (hc _ _ (by omega)).trans s2, s3.setCell (Nat.le_refl _) v, by simpa using s4⟩
/-- The answer's own variable, behind a call. -/
theorem res_new {w w2 : World} {t : TypeId} (hb : Below (w.alloc (.cells #[.int .i64 0, .int .i64 0] t)).drew.heap.size (w.alloc (.cells #[.int .i64 0, .int .i64 0] t)).drew w2) :
    w2.cell? ⟨w.heap.size, 0, none⟩ = some (.int .i64 0) ∧ w2.cell? ⟨w.heap.size, 1, none⟩ = some (.int .i64 0) ∧ w2.frozen? ⟨w.heap.size, 0, none⟩ = false ∧ w2.frozen? ⟨w.heap.size, 1, none⟩ = false :=
  new_var (W := (w.alloc (.cells #[.int .i64 0, .int .i64 0] t)).drew) hb _ _ _ (by simp [go_sem]) (by simp [go_sem]) (by simp [go_sem]) (by simp [go_sem])
theorem res_new' {w w2 : World} {t : TypeId} (hb : Below (w.alloc (.cells #[.int .i64 0, .int .i64 0] t)).heap.size (w.alloc (.cells #[.int .i64 0, .int .i64 0] t)) w2) :
    w2.cell? ⟨w.heap.size, 0, none⟩ = some (.int .i64 0) ∧ w2.cell? ⟨w.heap.size, 1, none⟩ = some (.int .i64 0) ∧ w2.frozen? ⟨w.heap.size, 0, none⟩ = false ∧ w2.frozen? ⟨w.heap.size, 1, none⟩ = false :=
  new_var hb _ _ _ (by simp [go_sem]) (by simp [go_sem]) (by simp [go_sem]) (by simp [go_sem])
/-- The k-th of both lists. -/
theorem at_both {w : World} {a b : Option Addr} {n k : Nat} {fs cs : List Int} (h : Hid (ARow w a fs)) (hn : Hid (fs.length = n)) (h' : Hid (ARow w b cs)) (hs : Hid (Sh.sharedB fs cs = true)) (hk : k < n) :
    ∃ ba oa bb ob, a = some ⟨ba, oa, none⟩ ∧ b = some ⟨bb, ob, none⟩ ∧ ba < w.heap.size ∧ bb < w.heap.size ∧ w.cell? ⟨ba, oa + k, none⟩ = some (.int .i64 (fs.getD k 0)) ∧ w.cell? ⟨bb, ob + k, none⟩ = some (.int .i64 (cs.getD k 0)) ∧
      (1 ≤ fs.getD k 0 ∧ fs.getD k 0 ≤ 30) ∧ (1 ≤ cs.getD k 0 ∧ cs.getD k 0 ≤ 40) := by
  have hm : cs.length = n := by rw [(Sh.sharedB_yes hs.out).2.1]; exact hn.out
  have hk1 : k < fs.length := by rw [hn.out]; exact hk
  have b1 := Sh.flowB_at (Sh.sharedB_yes hs.out).1 hk1
  have b2 := Sh.sharedB_at hs.out hk1
  rcases h.out with e | ⟨ba, oa, rfl, hba, hca⟩
  · rw [e] at hk1; simp at hk1
  rcases h'.out with e | ⟨bb, ob, rfl, hbb, hcb⟩
  · rw [e] at hm; simp at hm; omega
  exact ⟨ba, oa, bb, ob, rfl, rfl, hba, hbb, hca k hk1, hcb k (by omega), b1, b2⟩

set_option maxRecDepth 100000 in
set_option maxHeartbeats 1000000 in
theorem gg_any {a b : Option Addr} {n c d : Nat} {fs cs : List Int} {w : World} (h : Hid (ARow w a fs)) (hn : Hid (fs.length = n)) (h' : Hid (ARow w b cs)) (hs : Hid (Sh.sharedB fs cs = true)) :
    Calls Try.prog 53 #[.slice a n c, .slice b n d] w fun e w' => e = .returned (.int .i64 ((Sh.next fs cs : Nat) : Int)) ∧ Below w.heap.size w w' := by
  have e1 : ∀ args w, (callFunc 54 args).run Try.prog w = .ok (.enter 54 args) w := enters_of Try.func54 (by kernel_rfl) rfl
  have e2 : ∀ args w, (callFunc 90 args).run Try.prog w = .ok (.enter 90 args) w := enters_of Try.func90 (by kernel_rfl) rfl
  have hl := Sh.flowB_yes (Sh.sharedB_yes hs.out).1
  have hn1 : 0 < n ∧ n ≤ 1000 := by have := hn.out; omega
  have HL : Hid ((Sh.each Sh.gain fs cs).length = n) := hide (by rw [Sh.each_len]; exact hn.out)
  have HG := hide (Sh.gains_good hs.out)
  have HE : Hid (Sh.best Sh.more (Sh.each Sh.gain fs cs) n = Sh.next fs cs) := hide (by unfold Sh.next; rw [hn.out])
  clear hl
  go_enter Try.func53, Try.ntmps53
  go_wp2_with (first
    | (go_at_call 47; refine (eachK_any Sh.gain e1 (hide fun f c w f0 f1 c0 c1 => gainAt_any f0 f1 c0 c1) h hn h' hs).mono ?_; rintro e w1 ⟨v, rfl, hb1, own1⟩; obtain ⟨g, cap, rfl, g0, g1, row1⟩ := (frow_owns HL.out own1).resolve_left (fun h => by have := h.2; omega); have R1 := hide row1; clear row1 own1)
    | (go_at_call 55; refine (firstB_any Sh.more e2 (hide fun p q w hp hq => more_any hp hq) R1 HL g1 hn1.1 hn1.2 HG).mono ?_; rintro e w2 ⟨rfl, hb2⟩))
  go_ret
  exact ⟨ret_int (by rw [HE.out]), hb1.trans (hb2.mono hb1.size)⟩
set_option maxRecDepth 100000 in
set_option maxHeartbeats 2000000 in
theorem sgain_any {a b : Option Addr} {n c d k : Nat} {fs cs : List Int} {w : World} (h : Hid (ARow w a fs)) (hn : Hid (fs.length = n)) (h' : Hid (ARow w b cs)) (hs : Hid (Sh.sharedB fs cs = true)) (hk : k < n) :
    Calls Try.prog 60 #[.slice a n c, .slice b n d, .int .i64 (k : Int)] w fun e w' => e = .returned (.agg #[.int .i64 (Sh.gain (fs.getD k 0) (cs.getD k 0)).1, .int .i64 (Sh.gain (fs.getD k 0) (cs.getD k 0)).2]) ∧ Below w.heap.size w w' := by
  obtain ⟨ba, oa, bb, ob, rfl, rfl, hba, hbb, r1, r2, ⟨f0, f1⟩, ⟨c0, c1⟩⟩ := at_both h hn h' hs hk
  have k0 : (0 : Int) ≤ (k : Int) := by omega
  have k1 : (k : Int) < (n : Int) := by omega
  generalize fs.getD k 0 = x at *
  generalize cs.getD k 0 = y at *
  obtain ⟨d0, d1⟩ := Sh.gain_den c0 c1
  have m1 : wrap64 (y * (y + 1)) = y * (y + 1) := wrap_id _ (by omega) (by omega)
  have m0 : wrap64 (y + 1) = y + 1 := wrap_id _ (by omega) (by omega)
  have m1' : IntKind.i64.wrap (y * (y + 1)) = y * (y + 1) := by rw [IntKind.wrap_i64]; omega
  have m0' : IntKind.i64.wrap (y + 1) = y + 1 := by rw [IntKind.wrap_i64]; omega
  have hb0 : Below w.heap.size w (w.alloc (.cells #[.int .i64 0, .int .i64 0] 35)) := (Below.refl _ _).alloc (Nat.le_refl _) _
  have q1 := (hb0.cell (p := ⟨ba, oa + k, none⟩) hba).trans r1
  have q2 := (hb0.cell (p := ⟨bb, ob + k, none⟩) hbb).trans r2
  show Calls Try.prog 60 _ w fun e w' => e = .returned (.agg #[.int .i64 (Fr.mkN x (y * (y + 1))), .int .i64 (Fr.mkD x (y * (y + 1)))]) ∧ Below w.heap.size w w'
  go_enter Try.func60, Try.ntmps60
  go_wp2_with fail
  go_region_held3 (fun w' => w'.cell? ⟨ba, oa + k, none⟩ = some (.int .i64 x) ∧ w'.cell? ⟨bb, ob + k, none⟩ = some (.int .i64 y) ∧ Below w.heap.size w w' ∧ w.heap.size < w'.heap.size)
    (first | exact ⟨q1, q2, hb0.drew, by simp⟩ | assumption | exact two_call hba hbb ‹_› (by assumption) | exact two_set hba hbb (two_set hba hbb ‹_›) | fail)
    (first | (go_at_call 58; refine (make_pos x (y * (y + 1)) _ (by omega) (by omega) d0 (by omega)).mono ?_; rintro e w3 ⟨rfl, hb3⟩; obtain ⟨c4, c5, g4, g5⟩ := res_new hb3) | fail)
  obtain ⟨_, _, hB, _⟩ := ‹_ ∧ _ ∧ _ ∧ _›
  go_wp2_with fail
  exact bodyPost_ret (v := .agg #[.int .i64 (Fr.mkN x (y * (y + 1))), .int .i64 (Fr.mkD x (y * (y + 1)))]) (by simp [results, Try.results60, go_sem, c4, c5]) rfl ⟨rfl, hB⟩
set_option maxRecDepth 100000 in
set_option maxHeartbeats 2000000 in
theorem snext_any {a b : Option Addr} {n c d : Nat} {fs cs : List Int} {w : World} (h : Hid (ARow w a fs)) (hn : Hid (fs.length = n)) (h' : Hid (ARow w b cs)) (hs : Hid (Sh.sharedB fs cs = true)) :
    Calls Try.prog 62 #[.slice a n c, .slice b n d] w fun e w' => e = .returned (.int .i64 ((Sh.next fs cs : Nat) : Int)) ∧ Below w.heap.size w w' := by
  have hl := Sh.flowB_yes (Sh.sharedB_yes hs.out).1
  have hn1 : 0 < n ∧ n ≤ 1000 := by have := hn.out; omega
  clear hl
  have HL : Hid ((Sh.each Sh.gain fs cs).length = n) := hide (by rw [Sh.each_len]; exact hn.out)
  have HE : Hid (Sh.best Sh.more (Sh.each Sh.gain fs cs) n = Sh.next fs cs) := hide (by unfold Sh.next; rw [hn.out])
  have HG := hide (Sh.gains_good hs.out)
  obtain ⟨n0, n8⟩ := hn1
  go_enter Try.func62, Try.ntmps62
  go_wp2_with fail
  go_loopw [5, 6, 9] (fun s5 _ s wr => ∃ k m : Nat, s5 = .int .i64 m ∧ s = .int .i64 k ∧ k ≤ n ∧ m < n ∧ Hid (m = Sh.best Sh.more (Sh.each Sh.gain fs cs) k) ∧ Below w.heap.size w wr) (fun _ _ s _ => n - (intOf s).toNat)
  case atStart => exact ⟨0, 0, rfl, rfl, Nat.zero_le _, n0, hide rfl, Below.refl _ _⟩
  case round =>
    obtain ⟨k, m, rfl, rfl, hk, hmn, HM, hB⟩ := hrel
    by_cases hlt : k < n
    · have HS : Hid (Sh.best Sh.more (Sh.each Sh.gain fs cs) (k + 1) = if Sh.less (Sh.gain (fs.getD m 0) (cs.getD m 0)) (Sh.gain (fs.getD k 0) (cs.getD k 0)) = true then k else m) := hide (by rw [Sh.best, ← HM.out, Sh.each_at _ _ _ (by rw [hn.out]; exact hlt), Sh.each_at _ _ _ (by rw [hn.out]; exact hmn)]; rfl)
      have HG1 := HG.out k (by rw [HL.out]; exact hlt)
      have HG2 := HG.out m (by rw [HL.out]; exact hmn)
      rw [Sh.each_at _ _ _ (by rw [hn.out]; exact hlt)] at HG1
      rw [Sh.each_at _ _ _ (by rw [hn.out]; exact hmn)] at HG2
      have HC1 := hide (sgain_any (c := c) (d := d) (hide (h.out.below hB)) hn (hide (h'.out.below hB)) hs hmn)
      have HC2 := hide (fun w1 (hb1 : Below wr.heap.size wr w1) => sgain_any (c := c) (d := d) (hide ((h.out.below hB).below hb1)) hn (hide ((h'.out.below hB).below hb1)) hs hlt)
      generalize Sh.gain (fs.getD m 0) (cs.getD m 0) = p at *
      generalize Sh.gain (fs.getD k 0) (cs.getD k 0) = q at *
      have HL3 := hide (fun w' => sless_any (w := w') HG2 HG1)
      clear HG1 HG2
      cases hc : Sh.less p q
      · rw [hc] at HL3
        have HN : Hid (m = Sh.best Sh.more (Sh.each Sh.gain fs cs) (k + 1)) := hide (by rw [HS.out, hc]; rfl)
        clear hc HS
        go_wp2_with fail
        refine HC1.out.mono ?_
        rintro e w1 ⟨rfl, hb1⟩
        go_wp2_with fail
        refine (HC2.out w1 hb1).mono ?_
        rintro e w2 ⟨rfl, hb2⟩
        go_wp2_with fail
        refine (HL3.out w2).mono ?_
        rintro e w3 ⟨rfl, hb3⟩
        have hB3 := ((hB.trans (hb1.mono hB.size)).trans (hb2.mono (Nat.le_trans hB.size hb1.size))).trans (hb3.mono (Nat.le_trans (Nat.le_trans hB.size hb1.size) hb2.size))
        go_wp2_with fail
        go_roundw
        case rel => exact ⟨k + 1, m, rfl, by go_num, by omega, hmn, HN, hB3⟩
        case measure => simp only [intOf]; omega
      · rw [hc] at HL3
        have HN : Hid (k = Sh.best Sh.more (Sh.each Sh.gain fs cs) (k + 1)) := hide (by rw [HS.out, hc]; rfl)
        clear hc HS
        go_wp2_with fail
        refine HC1.out.mono ?_
        rintro e w1 ⟨rfl, hb1⟩
        go_wp2_with fail
        refine (HC2.out w1 hb1).mono ?_
        rintro e w2 ⟨rfl, hb2⟩
        go_wp2_with fail
        refine (HL3.out w2).mono ?_
        rintro e w3 ⟨rfl, hb3⟩
        have hB3 := ((hB.trans (hb1.mono hB.size)).trans (hb2.mono (Nat.le_trans hB.size hb1.size))).trans (hb3.mono (Nat.le_trans (Nat.le_trans hB.size hb1.size) hb2.size))
        go_wp2_with fail
        go_roundw
        case rel => exact ⟨k + 1, k, rfl, by go_num, by omega, hlt, HN, hB3⟩
        case measure => simp only [intOf]; omega
    · have hke : k = n := by omega
      subst hke
      go_wp2_with fail
      go_ret
      exact ⟨ret_int (by rw [HM.out, HE.out]), hB⟩
def nextN (fs cs : List Int) : Int := if Sh.sharedB fs cs = true then ((Sh.next fs cs : Nat) : Int) else 0
theorem shared_len {fs cs : List Int} {n m : Nat} (hn : Hid (fs.length = n)) (hm : Hid (cs.length = m)) (hs : Sh.sharedB fs cs = true) : m = n := by
  have := (Sh.sharedB_yes hs).2.1; have := hn.out; have := hm.out; omega
set_option maxRecDepth 100000 in
set_option maxHeartbeats 1000000 in
theorem nf_any {a b : Option Addr} {n m c d : Nat} {fs cs : List Int} {w : World} (h : Hid (ARow w a fs)) (hn : Hid (fs.length = n)) (h' : Hid (ARow w b cs)) (hm : Hid (cs.length = m)) :
    Calls Try.prog 20 #[.slice a n c, .slice b m d] w fun e w' => e = .returned (.tuple #[.int .i64 (nextN fs cs), .bool (Sh.sharedB fs cs)]) ∧ Below w.heap.size w w' := by
  unfold nextN
  cases hs : Sh.sharedB fs cs
  · have HS := hide hs
    clear hs
    go_enter Try.func20, Try.ntmps20
    go_wp2_with (go_at_call 45; refine (shared_eq h hn h' hm HS).mono ?_; rintro e w1 ⟨rfl, rfl⟩)
    go_ret2
    exact ⟨rfl, Below.refl _ _⟩
  · obtain rfl := shared_len hn hm hs
    have HS := hide hs
    clear hs
    go_enter Try.func20, Try.ntmps20
    go_wp2_with (first
      | (go_at_call 45; refine (shared_eq h hn h' hm HS).mono ?_; rintro e w1 ⟨rfl, rfl⟩)
      | (go_at_call 53; refine (gg_any h hn h' HS).mono ?_; rintro e w1 ⟨rfl, hb1⟩))
    go_ret2
    exact ⟨rfl, hb1⟩
set_option maxRecDepth 100000 in
set_option maxHeartbeats 1000000 in
theorem snf_any {a b : Option Addr} {n m c d : Nat} {fs cs : List Int} {w : World} (h : Hid (ARow w a fs)) (hn : Hid (fs.length = n)) (h' : Hid (ARow w b cs)) (hm : Hid (cs.length = m)) :
    Calls Try.prog 21 #[.slice a n c, .slice b m d] w fun e w' => e = .returned (.tuple #[.int .i64 (nextN fs cs), .bool (Sh.sharedB fs cs)]) ∧ Below w.heap.size w w' := by
  unfold nextN
  cases hs : Sh.sharedB fs cs
  · have HS := hide hs
    clear hs
    go_enter Try.func21, Try.ntmps21
    go_wp2_with (go_at_call 57; refine (sshared_eq h hn h' hm HS).mono ?_; rintro e w1 ⟨rfl, rfl⟩)
    go_ret2
    exact ⟨rfl, Below.refl _ _⟩
  · obtain rfl := shared_len hn hm hs
    have HS := hide hs
    clear hs
    go_enter Try.func21, Try.ntmps21
    go_wp2_with (first
      | (go_at_call 57; refine (sshared_eq h hn h' hm HS).mono ?_; rintro e w1 ⟨rfl, rfl⟩)
      | (go_at_call 62; refine (snext_any h hn h' HS).mono ?_; rintro e w1 ⟨rfl, hb1⟩))
    go_ret2
    exact ⟨rfl, hb1⟩
end Go.Proofs.Ytljccbnkibfimaa
