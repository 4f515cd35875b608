/-
  What IsStable of the model answers.
-/
import Derived.Test.YtljccbnkibfimaaSf
namespace Go.Proofs.Ytljccbnkibfimaa
open Go.RowKit

/-- A fraction in a variable of its own, and all that was there when the loop began. -/
theorem varW_call {W w1 w2 : World} {V : Nat} {v1 v2 : Option Value} (hV : V < W.heap.size)
    (s : w1.cell? ⟨V, 0, none⟩ = v1 ∧ w1.cell? ⟨V, 1, none⟩ = v2 ∧ Below W.heap.size W w1) (h : Below w1.heap.size w1 w2) :
    w2.cell? ⟨V, 0, none⟩ = v1 ∧ w2.cell? ⟨V, 1, none⟩ = v2 ∧ Below W.heap.size W w2 := by
  obtain ⟨s1, s2, s3⟩ := s
  obtain ⟨hc, _⟩ := bcell h
  have := s3.size
  exact ⟨(hc _ _ (by omega)).trans s1, (hc _ _ (by omega)).trans s2, s3.trans (h.mono this)⟩
set_option maxRecDepth 100000 in
set_option maxHeartbeats 1000000 in
theorem sis_bad {a b : Option Addr} {n m c d : Nat} {fs cs : List Int} {w : World} (h : Hid (ARow w a fs)) (hn : Hid (fs.length = n)) (h' : Hid (ARow w b cs)) (hm : Hid (cs.length = m)) (hs : Hid (Sh.sharedB fs cs = false)) :
    Calls Try.prog 18 #[.slice a n c, .slice b m d] w fun e w' => e = .returned (.tuple #[.bool false, .bool false]) ∧ Below w.heap.size w w' := by
  go_enter Try.func18, Try.ntmps18
  go_wp2_with (go_at_call 57; refine (sshared_eq h hn h' hm hs).mono ?_; rintro e w1 ⟨rfl, rfl⟩)
  go_ret2
  exact ⟨rfl, Below.refl _ _⟩
set_option maxRecDepth 100000 in
set_option maxHeartbeats 4000000 in
theorem sis_yes {a b : Option Addr} {n c d : Nat} {fs cs : List Int} {w : World} (h : Hid (ARow w a fs)) (hn : Hid (fs.length = n)) (h' : Hid (ARow w b cs)) (hm : Hid (cs.length = n)) (hs : Hid (Sh.sharedB fs cs = true)) :
    Calls Try.prog 18 #[.slice a n c, .slice b n d] w fun e w' => e = .returned (.tuple #[.bool (Sh.stableB fs cs), .bool true]) ∧ Below w.heap.size w w' := by
  have n8 : n ≤ 8 := by have := Sh.flowB_yes (Sh.sharedB_yes hs.out).1; have := hn.out; omega
  have HGG : Hid (∀ k, k < n → Sh.goodF (Sh.gain (fs.getD k 0) (cs.getD k 0)) = true) := hide fun k hk => by
    have := Sh.gains_good hs.out k (by rw [Sh.each_len, hn.out]; exact hk)
    rwa [Sh.each_at _ _ _ (by rw [hn.out]; exact hk)] at this
  have HY : Hid ((∀ j, j < n → Sh.stableAt fs cs j = true) → true = Sh.stableB fs cs) := hide fun hall => by
    unfold Sh.stableB; rw [hn.out]; exact (List.all_eq_true.2 fun j hj => hall j (by simpa using hj)).symm
  have HN : Hid (∀ j, j < n → Sh.stableAt fs cs j = false → false = Sh.stableB fs cs) := hide fun j hj hf => by
    cases e : Sh.stableB fs cs
    · rfl
    · unfold Sh.stableB at e
      rw [hn.out] at e
      have := List.all_eq_true.1 e j (by simpa using hj)
      rw [hf] at this; cases this
  go_enter Try.func18, Try.ntmps18
  go_wp2_with (first
    | (go_at_call 57; refine (sshared_eq h hn h' hm hs).mono ?_; rintro e w1 ⟨rfl, hw1⟩; obtain rfl : w = w1 := hw1.symm))
  go_loopw [4, 5, 6, 7, 8, 15] (fun s4 s5 _ _ _ s wr => ∃ i : Nat, s4 = .bool false ∧ s5 = .bool false ∧ s = .int .i64 i ∧ i ≤ n ∧ Hid (∀ j, j < i → Sh.stableAt fs cs j = true) ∧ Hid (Below w.heap.size w wr)) (fun _ _ _ _ _ s _ => n - (intOf s).toNat)
  case atStart => exact ⟨0, rfl, rfl, rfl, Nat.zero_le _, hide fun j hj => absurd hj (Nat.not_lt_zero _), hide (Below.refl _ _)⟩
  case round =>
    obtain ⟨i, rfl, rfl, rfl, hi, HA, HB⟩ := hrel
    by_cases hlt : i < n
    · obtain ⟨ba, oa, bb, ob, rfl, rfl, hba, hbb, r1, r2, ⟨f0, f1⟩, ⟨c0, c1⟩⟩ := at_both (hide (h.out.below HB.out)) hn (hide (h'.out.below HB.out)) hs hlt
      have k0 : (0 : Int) ≤ (i : Int) := by omega
      have k1 : (i : Int) < (n : Int) := by omega
      have HAT : Hid (Sh.stableAt fs cs i = (cs.getD i 0 == 1 || (List.range n).all fun k => k == i || !Sh.less (Sh.loss (fs.getD i 0) (cs.getD i 0)) (Sh.gain (fs.getD k 0) (cs.getD k 0)))) := hide (by unfold Sh.stableAt; rw [hn.out])
      generalize fs.getD i 0 = x at *
      generalize cs.getD i 0 = y at *
      generalize wr = W at *
      by_cases hy : y = 1
      · have hy1 : (y == 1) = true := by simp [hy]
        have HST : Hid (Sh.stableAt fs cs i = true) := hide (by rw [HAT.out, hy1]; rfl)
        have HA' : Hid (∀ j, j < i + 1 → Sh.stableAt fs cs j = true) := hide fun j hj => by
          by_cases e : j = i
          · subst e; exact HST.out
          · exact HA.out j (by omega)
        clear HAT hy
        go_wp2_with fail
        go_roundw
        case rel => exact ⟨i + 1, rfl, rfl, by go_num, by omega, HA', HB⟩
        case measure => simp only [intOf]; omega
      · have hy1 : (y == 1) = false := by simp [hy]
        have y1 : 1 < y := by omega
        obtain ⟨d0, d1⟩ := Sh.loss_den y1 c1
        have m1 : wrap64 (y * (y - 1)) = y * (y - 1) := wrap_id _ (by omega) (by omega)
        have m0 : wrap64 (y - 1) = y - 1 := wrap_id _ (by omega) (by omega)
        have m1' : IntKind.i64.wrap (y * (y - 1)) = y * (y - 1) := by rw [IntKind.wrap_i64]; omega
        have m0' : IntKind.i64.wrap (y - 1) = y - 1 := by rw [IntKind.wrap_i64]; omega
        have HLG := hide (Sh.loss_good f0 f1 y1 c1)
        have hloss : Hid (∀ w', Calls Try.prog 58 #[.int .i64 x, .int .i64 (y * (y - 1))] w' fun e w2 => e = .returned (fv (Sh.loss x y)) ∧ Below w'.heap.size w' w2) := hide fun w' => make_pos x (y * (y - 1)) w' (by omega) (by omega) d0 (by omega)
        have HAT2 : Hid (Sh.stableAt fs cs i = (List.range n).all fun k => k == i || !Sh.less (Sh.loss x y) (Sh.gain (fs.getD k 0) (cs.getD k 0))) := hide (by rw [HAT.out, hy1]; rfl)
        generalize Sh.loss x y = p at *
        rw [fv_eq] at hloss
        obtain ⟨p1, p2⟩ := p
        clear HAT hy
        go_wp2_with fail
        go_cut [7] (fun s7 wc => ∃ V, s7 = .pointer (some ⟨V, 0, none⟩) ∧ wc.cell? ⟨V, 0, none⟩ = some (.int .i64 p1) ∧ wc.cell? ⟨V, 1, none⟩ = some (.int .i64 p2) ∧ V < wc.heap.size ∧ Hid (Below W.heap.size W wc))
        case first =>
          go_region_held3 (fun w' => w'.cell? ⟨ba, oa + i, none⟩ = some (.int .i64 x) ∧ w'.cell? ⟨bb, ob + i, none⟩ = some (.int .i64 y) ∧ Below W.heap.size W w' ∧ W.heap.size ≤ w'.heap.size)
            (first | exact ⟨r1, r2, (Below.refl _ _).drew, Nat.le_refl _⟩ | assumption | exact twoW_call hba hbb ‹_› (by assumption) | exact twoW_call hba hbb ‹_› (below_alloc _ _) | exact twoW_call hba hbb ‹_› (below_alloc_drew _ _) | (refine twoW_set hba hbb (twoW_set hba hbb ?_ ?_) ?_ <;> first | assumption | omega) | fail)
            (first | (go_at_call 58; refine (hloss.out _).mono ?_; rintro e w3 ⟨rfl, hb3⟩; have hS := twoW_call hba hbb ‹_› hb3; have z3 := hb3.size; (try simp at z3); obtain ⟨hc, hf⟩ := bsome hb3; have l0 := hc W.heap.size 0; have l1 := hc W.heap.size 1; have l2 := hf W.heap.size 0; have l3 := hf W.heap.size 1; (try simp [go_sem] at l0); (try simp [go_sem] at l1); (try simp [go_sem] at l2); (try simp [go_sem] at l3); have m0 := last_cell hb3 0; have m1 := last_cell hb3 1; have m2 := last_frozen hb3 0; have m3 := last_frozen hb3 1; (try simp [go_sem] at m0); (try simp [go_sem] at m1); (try simp [go_sem] at m2); (try simp [go_sem] at m3)) | fail)
          all_goals
            go_wp2_with fail
            go_meet
            case rel =>
              obtain ⟨_, _, t1, t2⟩ := ‹_ ∧ _ ∧ _ ∧ _›
              refine ⟨_, rfl, ?fc0, ?fc1, ?fc2, hide t1⟩
              case fc0 => first | (simp [go_sem, *]; done) | exact (set2 (by simp [go_sem, *]) (by simp [go_sem, *])).1
              case fc1 => first | (simp [go_sem, *]; done) | exact (set2 (by simp [go_sem, *]) (by simp [go_sem, *])).2.1
              case fc2 => first | (refine lt_of_some (o := 0) ?_; simp [go_sem, *]; done) | exact (set2 (by simp [go_sem, *]) (by simp [go_sem, *])).2.2
        case rest =>
          obtain ⟨V, rfl, v0, v1, vl, HB3⟩ := hcut
          have HB4 := hide (HB.out.trans (HB3.out.mono HB.out.size))
          have HR1 := hide (h.out.below HB4.out)
          have HR2 := hide (h'.out.below HB4.out)
          generalize wc = W1 at *
          clear r1 r2 hba hbb HB3
          go_wp2_with fail
          go_loopw [4, 5, 8, 40] (fun s4 s5 _ s wr => ∃ k : Nat, s4 = .bool false ∧ s5 = .bool false ∧ s = .int .i64 k ∧ k ≤ n ∧ Hid (∀ j, j < k → (j == i || !Sh.less (p1, p2) (Sh.gain (fs.getD j 0) (cs.getD j 0))) = true) ∧ wr.cell? ⟨V, 0, none⟩ = some (.int .i64 p1) ∧ wr.cell? ⟨V, 1, none⟩ = some (.int .i64 p2) ∧ Hid (Below W1.heap.size W1 wr)) (fun _ _ _ s _ => n - (intOf s).toNat)
          case atStart => exact ⟨0, rfl, rfl, rfl, Nat.zero_le _, hide fun j hj => absurd hj (Nat.not_lt_zero _), v0, v1, hide (Below.refl _ _)⟩
          case round =>
            obtain ⟨k, rfl, rfl, rfl, hk, HK, u0, u1, HBK⟩ := hrel
            by_cases hlt2 : k < n
            · have kk0 : (0 : Int) ≤ (k : Int) := by omega
              have kk1 : (k : Int) < (n : Int) := by omega
              by_cases hki : k = i
              · subst hki
                have hd : ((k : Int) != (k : Int)) = false := by simp
                have HK' : Hid (∀ j, j < k + 1 → (j == k || !Sh.less (p1, p2) (Sh.gain (fs.getD j 0) (cs.getD j 0))) = true) := hide fun j hj => by
                  by_cases e : j = k
                  · subst e; simp
                  · exact HK.out j (by omega)
                go_wp2_with fail
                go_quiet (fail)
                go_wp2_with fail
                go_roundw
                case rel => exact ⟨k + 1, rfl, rfl, by go_num, by omega, HK', u0, u1, hide (below_drewN HBK.out _)⟩
                case measure => simp only [intOf]; omega
              · have hd : ((k : Int) != (i : Int)) = true := by simp; omega
                have hgain := hide (fun (w' : World) (hb : Below W1.heap.size W1 w') => sgain_any (c := c) (d := d) (hide (HR1.out.below hb)) hn (hide (HR2.out.below hb)) hs hlt2)
                have HGk := hide (HGG.out k hlt2)
                have HST : Hid ((k == i || !Sh.less (p1, p2) (Sh.gain (fs.getD k 0) (cs.getD k 0))) = !Sh.less (p1, p2) (Sh.gain (fs.getD k 0) (cs.getD k 0))) := hide (by simp [hki])
                generalize hq : Sh.gain (fs.getD k 0) (cs.getD k 0) = q at *
                have HQ := hide hq
                clear hq
                have hless := hide (fun w' => sless_any (w := w') HLG.out HGk.out)
                obtain ⟨q1, q2⟩ := q
                cases hc : Sh.less (p1, p2) (q1, q2)
                · rw [hc] at hless
                  have HK' : Hid (∀ j, j < k + 1 → (j == i || !Sh.less (p1, p2) (Sh.gain (fs.getD j 0) (cs.getD j 0))) = true) := hide fun j hj => by
                    by_cases e : j = k
                    · subst e; rw [HQ.out, hc]; simp
                    · exact HK.out j (by omega)
                  clear hc
                  go_wp2_with fail
                  go_region_held3 (fun w' => w'.cell? ⟨V, 0, none⟩ = some (.int .i64 p1) ∧ w'.cell? ⟨V, 1, none⟩ = some (.int .i64 p2) ∧ Below W1.heap.size W1 w')
                    (first | exact ⟨u0, u1, HBK.out.drew⟩ | assumption | exact varW_call vl ‹_› (by assumption) | fail)
                    (first
                      | (go_at_call 60; obtain ⟨_, _, hbS⟩ := ‹_ ∧ _ ∧ _›; refine (hgain.out _ hbS).mono ?_; rintro e w3 ⟨rfl, hb3⟩)
                      | (go_at_call 59; refine (hless.out _).mono ?_; rintro e w3 ⟨rfl, hb3⟩) | fail)
                  obtain ⟨y0, y1, HBE⟩ := ‹_ ∧ _ ∧ _›
                  go_wp2_with fail
                  go_roundw
                  case rel => exact ⟨k + 1, rfl, rfl, by go_num, by omega, HK', y0, y1, hide HBE⟩
                  case measure => simp only [intOf]; omega
                · rw [hc] at hless
                  have HF : Hid (false = Sh.stableB fs cs) := hide (HN.out i hlt (by
                    rw [HAT2.out]
                    cases e : (List.range n).all fun k => k == i || !Sh.less (p1, p2) (Sh.gain (fs.getD k 0) (cs.getD k 0))
                    · rfl
                    · have := List.all_eq_true.1 e k (by simpa using hlt2)
                      rw [HQ.out, hc] at this
                      simp [hki] at this))
                  clear hc
                  go_wp2_with fail
                  go_region_held3 (fun w' => w'.cell? ⟨V, 0, none⟩ = some (.int .i64 p1) ∧ w'.cell? ⟨V, 1, none⟩ = some (.int .i64 p2) ∧ Below W1.heap.size W1 w')
                    (first | exact ⟨u0, u1, HBK.out.drew⟩ | assumption | exact varW_call vl ‹_› (by assumption) | fail)
                    (first
                      | (go_at_call 60; obtain ⟨_, _, hbS⟩ := ‹_ ∧ _ ∧ _›; refine (hgain.out _ hbS).mono ?_; rintro e w3 ⟨rfl, hb3⟩)
                      | (go_at_call 59; refine (hless.out _).mono ?_; rintro e w3 ⟨rfl, hb3⟩) | fail)
                  obtain ⟨y0, y1, HBE⟩ := ‹_ ∧ _ ∧ _›
                  go_wp2_with fail
                  go_ret2
                  exact ⟨ret_bb HF.out, HB4.out.trans (HBE.mono HB4.out.size)⟩
            · have hke : k = n := by omega
              subst hke
              have HA' : Hid (∀ j, j < i + 1 → Sh.stableAt fs cs j = true) := hide fun j hj => by
                by_cases e : j = i
                · subst e
                  rw [HAT2.out]
                  exact List.all_eq_true.2 fun t ht => HK.out t (by simpa using ht)
                · exact HA.out j (by omega)
              go_wp2_with fail
              go_roundw
              case rel => exact ⟨i + 1, rfl, rfl, by go_num, by omega, HA', hide (HB4.out.trans (HBK.out.mono HB4.out.size))⟩
              case measure => simp only [intOf]; omega
    · have hie : i = n := by omega
      subst hie
      go_wp2_with fail
      go_ret2
      exact ⟨ret_bb (HY.out HA.out), HB.out⟩
theorem sis_any {a b : Option Addr} {n m c d : Nat} {fs cs : List Int} {w : World} (h : Hid (ARow w a fs)) (hn : Hid (fs.length = n)) (h' : Hid (ARow w b cs)) (hm : Hid (cs.length = m)) :
    Calls Try.prog 18 #[.slice a n c, .slice b m d] w fun e w' => e = .returned (.tuple #[.bool (stabB fs cs), .bool (Sh.sharedB fs cs)]) ∧ Below w.heap.size w w' := by
  unfold stabB
  cases hs : Sh.sharedB fs cs
  · exact sis_bad h hn h' hm (hide hs)
  · obtain rfl := shared_len hn hm hs
    exact sis_yes h hn h' hm (hide hs)
end Go.Proofs.Ytljccbnkibfimaa
