/-
  What lossesOf and IsStable of the program, and IsStable of the model answer.
-/
import Derived.Test.YtljccbnkibfimaaSd
import Derived.Deep.DeepCutAuto
namespace Go.Proofs.Ytljccbnkibfimaa
open Go.RowKit

/-- One number of each of two lists, and all that was there when a statement began, while its variable is made. -/
theorem twoW_call {W w1 w2 : World} {ba oa bb ob : Nat} {v1 v2 : Option Value} (ha : ba < W.heap.size) (hb : bb < W.heap.size)
    (s : w1.cell? ⟨ba, oa, none⟩ = v1 ∧ w1.cell? ⟨bb, ob, none⟩ = v2 ∧ Below W.heap.size W w1 ∧ W.heap.size ≤ w1.heap.size) (h : Below w1.heap.size w1 w2) :
    w2.cell? ⟨ba, oa, none⟩ = v1 ∧ w2.cell? ⟨bb, ob, none⟩ = v2 ∧ Below W.heap.size W w2 ∧ W.heap.size ≤ w2.heap.size := by
  obtain ⟨s1, s2, s3, s4⟩ := s
  obtain ⟨hc, _⟩ := bcell h
  exact ⟨(hc _ _ (by omega)).trans s1, (hc _ _ (by omega)).trans s2, s3.trans (h.mono s3.size), Nat.le_trans s4 h.size⟩
theorem twoW_set {W w1 : World} {ba oa bb ob B i : Nat} {v : Value} {v1 v2 : Option Value} (ha : ba < W.heap.size) (hb : bb < W.heap.size)
    (s : w1.cell? ⟨ba, oa, none⟩ = v1 ∧ w1.cell? ⟨bb, ob, none⟩ = v2 ∧ Below W.heap.size W w1 ∧ W.heap.size ≤ w1.heap.size) (hB : W.heap.size ≤ B) :
    (w1.setCell ⟨B, i, none⟩ v).cell? ⟨ba, oa, none⟩ = v1 ∧ (w1.setCell ⟨B, i, none⟩ v).cell? ⟨bb, ob, none⟩ = v2 ∧ Below W.heap.size W (w1.setCell ⟨B, i, none⟩ v) ∧ W.heap.size ≤ (w1.setCell ⟨B, i, none⟩ v).heap.size := by
  obtain ⟨s1, s2, s3, s4⟩ := s
  have hc : ∀ x o, x ≠ B → (w1.setCell ⟨B, i, none⟩ v).cell? ⟨x, o, none⟩ = w1.cell? ⟨x, o, none⟩ := fun x o h => World.cell?_setCell_other _ _ _ _ (fun e => h (by injection e with e1; exact e1.symm))
  exact ⟨(hc _ _ (by omega)).trans s1, (hc _ _ (by omega)).trans s2, s3.setCell hB v, by simpa using s4⟩

theorem own_len {w : World} {base e n : Nat} {v : Value} {xs : List (Int × Int)} (hn : xs.length = n) (h : w.ownsRow base e 2 v n (fcells xs)) : ∃ a c, v = .slice a n c := by
  rcases frow_owns hn h with ⟨rfl, rfl⟩ | ⟨g, cap, rfl, _⟩
  · exact ⟨_, _, rfl⟩
  · exact ⟨_, _, rfl⟩
set_option maxRecDepth 100000 in
set_option maxHeartbeats 2000000 in
theorem losses_any {a b : Option Addr} {n c d : Nat} {fs cs : List Int} {w : World} (h : Hid (ARow w a fs)) (hn : Hid (fs.length = n)) (h' : Hid (ARow w b cs)) (hs : Hid (Sh.sharedB fs cs = true)) :
    Calls Try.prog 52 #[.slice a n c, .slice b n d] w fun e w' => ∃ v, e = .returned v ∧ Below w.heap.size w w' ∧ w'.ownsRow w.heap.size 35 2 v (Sh.losses fs cs n).length (fcells (Sh.losses fs cs n)) := by
  obtain ⟨i0, hi, hz0, hz1, hz2⟩ := info_parts infF
  have hm : Hid (cs.length = n) := hide (by rw [(Sh.sharedB_yes hs.out).2.1]; exact hn.out)
  have h8 : n ≤ 8 := by have := Sh.flowB_yes (Sh.sharedB_yes hs.out).1; have := hn.out; omega
  go_enter Try.func52, Try.ntmps52
  go_wp2_with fail
  go_loopw [5, 6, 7, 10] (fun v _ _ s wr => ∃ (k L : Nat), s = .int .i64 k ∧ k ≤ n ∧ L ≤ k ∧ Hid ((Sh.losses fs cs k).length = L) ∧ wr.ownsRow w.heap.size 35 2 v L (fcells (Sh.losses fs cs k)) ∧ Below w.heap.size w wr) (fun _ _ _ s _ => n - (intOf s).toNat)
  case atStart => exact ⟨0, 0, rfl, Nat.zero_le _, Nat.le_refl _, hide rfl, World.ownsRow_nil _ _ _ _, Below.refl _ _⟩
  case round =>
    obtain ⟨k, L, rfl, hk, hL, HL, hown, hB⟩ := hrel
    by_cases hlt : k < n
    · obtain ⟨ba, oa, bb, ob, rfl, rfl, hba, hbb, r1, r2, ⟨f0, f1⟩, ⟨c0, c1⟩⟩ := at_both (hide (h.out.below hB)) hn (hide (h'.out.below hB)) hs hlt
      have k0 : (0 : Int) ≤ (k : Int) := by omega
      have k1 : (k : Int) < (n : Int) := by omega
      have HT : Hid (Sh.losses fs cs (k + 1) = if 1 < cs.getD k 0 then Sh.losses fs cs k ++ [Sh.loss (fs.getD k 0) (cs.getD k 0)] else Sh.losses fs cs k) := hide rfl
      generalize fs.getD k 0 = x at *
      generalize cs.getD k 0 = y at *
      by_cases hy : 1 < y
      · have HE : Hid (Sh.losses fs cs (k + 1) = Sh.losses fs cs k ++ [Sh.loss x y]) := hide (by rw [HT.out, if_pos hy])
        have hcall := hide (lossAt_any (w := wr) f0 f1 hy c1)
        generalize Sh.loss x y = p at *
        rw [fv_eq] at hcall
        have HL' : Hid ((Sh.losses fs cs (k + 1)).length = L + 1) := hide (by rw [HE.out]; simp [HL.out])
        have hown1 := hide hown
        clear hown HT
        go_wp2_with (first
          | (go_at_call 89; refine hcall.out.mono ?_; rintro e w1 ⟨rfl, hb1⟩; have own1 := own_below hown1.out hb1; have hs1 := hb1.size; have hs2 := hB.size)
          | (at_builtin; refine wpList_append_own _ rfl _ _ 63 rfl w.heap.size 35 i0 (.agg #[.int .i64 0, .int .i64 0]) 2 16 Try.underlying63 hi hz0 hz1 hz2 rfl (by decide) _ _ _ rfl (own1.alloc _) ⟨w1.heap.size, 0, none⟩ 1 1 [.int .i64 p.1, .int .i64 p.2] rfl rfl (new_frac _ _ _ rfl) (frac_cells _) (by unfold maxLen; omega) (by omega) (by simp; omega) ?_))
        intro v' w4 hown' hgrow _
        have hfin := own_grow own1 hgrow (Nat.le_refl _) (by omega)
        rw [← fcells_snoc, ← HE.out] at hown'
        go_wp2_with fail
        go_roundw
        case rel => exact ⟨k + 1, L + 1, by go_num, by omega, by omega, HL', hown', (hB.trans (hb1.mono hs2)).trans hfin⟩
        case measure => simp only [intOf]; omega
      · have HE : Hid (Sh.losses fs cs (k + 1) = Sh.losses fs cs k) := hide (by rw [HT.out, if_neg hy])
        have HL' : Hid ((Sh.losses fs cs (k + 1)).length = L) := hide (by rw [HE.out]; exact HL.out)
        have hown1 : Hid (wr.ownsRow w.heap.size 35 2 u5 L (fcells (Sh.losses fs cs (k + 1)))) := hide (by rw [HE.out]; exact hown)
        clear hown HT
        go_wp2_with fail
        go_roundw
        case rel => exact ⟨k + 1, L, by go_num, by omega, by omega, HL', hown1.out, hB⟩
        case measure => simp only [intOf]; omega
    · have hke : k = n := by omega
      subst hke
      have HO : Hid (wr.ownsRow w.heap.size 35 2 u5 (Sh.losses fs cs k).length (fcells (Sh.losses fs cs k))) := hide (by rw [HL.out]; exact hown)
      clear hown
      go_wp2_with fail
      go_ret
      exact ⟨_, rfl, hB, HO.out⟩
def stabB (fs cs : List Int) : Bool := Sh.sharedB fs cs && Sh.stableB fs cs
theorem ret_bb {a b c : Bool} (h : a = b) : Ending.returned (.tuple #[.bool a, .bool c]) = .returned (.tuple #[.bool b, .bool c]) := by rw [h]
set_option maxRecDepth 100000 in
set_option maxHeartbeats 1000000 in
theorem is_bad {a b : Option Addr} {n m c d : Nat} {fs cs : List Int} {w : World} (h : Hid (ARow w a fs)) (hn : Hid (fs.length = n)) (h' : Hid (ARow w b cs)) (hm : Hid (cs.length = m)) (hs : Hid (Sh.sharedB fs cs = false)) :
    Calls Try.prog 17 #[.slice a n c, .slice b m d] w fun e w' => e = .returned (.tuple #[.bool false, .bool false]) ∧ Below w.heap.size w w' := by
  go_enter Try.func17, Try.ntmps17
  go_wp2_with (go_at_call 45; refine (shared_eq h hn h' hm hs).mono ?_; rintro e w1 ⟨rfl, rfl⟩)
  go_ret2
  exact ⟨rfl, Below.refl _ _⟩
set_option maxRecDepth 100000 in
set_option maxHeartbeats 4000000 in
theorem is_yes {a b : Option Addr} {n c d : Nat} {fs cs : List Int} {w : World} (h : Hid (ARow w a fs)) (hn : Hid (fs.length = n)) (h' : Hid (ARow w b cs)) (hm : Hid (cs.length = n)) (hs : Hid (Sh.sharedB fs cs = true)) :
    Calls Try.prog 17 #[.slice a n c, .slice b n d] w fun e w' => e = .returned (.tuple #[.bool (Sh.calmB fs cs), .bool true]) ∧ Below w.heap.size w w' := by
  have e2 : ∀ args w, (callFunc 56 args).run Try.prog w = .ok (.enter 56 args) w := enters_of Try.func56 (by kernel_rfl) rfl
  have hl := Sh.flowB_yes (Sh.sharedB_yes hs.out).1
  have hnl := hn.out
  have n0 : 0 < n := by omega
  have n8 : n ≤ 8 := by omega
  clear hl hnl
  have HC : Hid (Sh.calmB fs cs = if (Sh.losses fs cs n).length = 0 then true else !Sh.less ((Sh.losses fs cs n).getD (Sh.best Sh.less (Sh.losses fs cs n) (Sh.losses fs cs n).length) (0, 0)) (Sh.gain (fs.getD (Sh.next fs cs) 0) (cs.getD (Sh.next fs cs) 0))) := hide (by unfold Sh.calmB; rw [hn.out])
  have HGL : Hid (∀ i, i < (Sh.losses fs cs n).length → Sh.goodF ((Sh.losses fs cs n).getD i (0, 0)) = true) := hide (by have := Sh.losses_good hs.out; rw [hn.out] at this; exact this)
  have HLL := hide (Sh.losses_len fs cs n)
  have hcall := hide (losses_any (c := c) (d := d) h hn h' hs)
  generalize hbx : Sh.calmB fs cs = B at *
  clear hbx
  generalize Sh.losses fs cs n = xs at *
  have hxl : ∃ L, xs.length = L := ⟨_, rfl⟩
  obtain ⟨L, hL⟩ := hxl
  have HLn := hide hL
  rw [hL] at hcall HC
  have hLn : L ≤ n := by have := HLL.out; omega
  clear hL
  by_cases h0 : L = 0
  · subst h0
    have HT : Hid (true = B) := hide (by rw [HC.out]; simp)
    go_enter Try.func17, Try.ntmps17
    go_wp2_with (first
      | (go_at_call 45; refine (shared_eq h hn h' hm hs).mono ?_; rintro e w1 ⟨rfl, rfl⟩)
      | (go_at_call 52; refine hcall.out.mono ?_; rintro e w1 ⟨v, rfl, hb1, own1⟩; obtain ⟨a0, c0, rfl⟩ := own_len HLn.out own1; clear own1))
    go_ret2
    exact ⟨ret_bb HT.out, hb1⟩
  · have hL0 : ((L : Int) == 0) = false := by simp; omega
    have hLp : 0 < L := by omega
    have hlt := hide (Sh.next_lt cs (show 0 < fs.length by rw [hn.out]; exact n0))
    have HGG := Sh.gains_good hs.out (Sh.next fs cs) (by rw [Sh.each_len]; exact hlt.out)
    rw [Sh.each_at _ _ _ hlt.out] at HGG
    have HGN := hide HGG
    have hbl := Sh.best_le Sh.less xs L hLp
    have HGB := hide (HGL.out _ (by rw [HLn.out]; exact hbl))
    have HTT : Hid (B = !Sh.less (xs.getD (Sh.best Sh.less xs L) (0, 0)) (Sh.gain (fs.getD (Sh.next fs cs) 0) (cs.getD (Sh.next fs cs) 0))) := hide (by rw [HC.out, if_neg h0])
    have hgg := hide (fun (w' : World) (hb : Below w.heap.size w w') => gg_any (c := c) (d := d) (hide (h.out.below hb)) hn (hide (h'.out.below hb)) hs)
    have hnn : Sh.next fs cs < n := by rw [← hn.out]; exact hlt.out
    clear HGG HC
    generalize Sh.next fs cs = k at *
    obtain ⟨ba, oa, bb, ob, rfl, rfl, hba, hbb, r1, r2, ⟨f0, f1⟩, ⟨c0, c1⟩⟩ := at_both h hn h' hs hnn
    generalize fs.getD k 0 = x at *
    generalize cs.getD k 0 = y at *
    have hgain := hide (fun w' => gainAt_any (w := w') f0 f1 c0 c1)
    generalize Sh.gain x y = p at *
    rw [show fv p = .agg #[.int .i64 p.1, .int .i64 p.2] from rfl] at hgain
    have HFB := hide (fun (g cap : Nat) (w' : World) hr hb => firstB_any (b := g) (off := 0) (cap := cap) (w := w') (xs := xs) Sh.less e2 (hide fun p q w hp hq => less_any hp hq) hr HLn hb hLp (by omega) HGL)
    generalize Sh.best Sh.less xs L = j at *
    have HQ := hide (rfl : xs.getD j (0, 0) = xs.getD j (0, 0))
    generalize hq : xs.getD j (0, 0) = q at *
    have HQ' := hide hq
    clear hq HQ
    have HLS := hide (fun w' => less_any (w := w') HGB.out HGN.out)
    generalize Sh.less q p = lb at *
    have k0 : (0 : Int) ≤ (k : Int) := by omega
    have k1 : (k : Int) < (n : Int) := by omega
    have j0 : (0 : Int) ≤ (j : Int) := by omega
    have j1 : (j : Int) < (L : Int) := by omega
    obtain ⟨p1, p2⟩ := p
    obtain ⟨q1, q2⟩ := q
    go_enter Try.func17, Try.ntmps17
    go_wp2_with (first
      | (go_at_call 45; refine (shared_eq h hn h' hm hs).mono ?_; rintro e w1 ⟨rfl, rfl⟩)
      | (go_at_call 52; refine hcall.out.mono ?_; rintro e w1 ⟨v, rfl, hb1, own1⟩; obtain ⟨g, cap, rfl, g0, g1, row1⟩ := (frow_owns HLn.out own1).resolve_left (fun h => by have := h.2; omega); have R1 := hide row1; clear row1 own1)
      | (go_at_call 53; refine (hgg.out w1 hb1).mono ?_; rintro e w2 ⟨rfl, hb2⟩))
    have hB2 := hb1.trans (hb2.mono hb1.size)
    have R2 := hide (R1.out.below hb2 g1)
    have g2 : g < w2.heap.size := Nat.lt_of_lt_of_le g1 hb2.size
    have s1 := (hB2.cell (p := ⟨ba, oa + k, none⟩) hba).trans r1
    have s2 := (hB2.cell (p := ⟨bb, ob + k, none⟩) hbb).trans r2
    have hba2 : ba < w2.heap.size := Nat.lt_of_lt_of_le hba hB2.size
    have hbb2 : bb < w2.heap.size := Nat.lt_of_lt_of_le hbb hB2.size
    clear R1 hcall hgg r1 r2 HGL HGB HGN
    go_cut [8] (fun s8 wc => ∃ V, s8 = .pointer (some ⟨V, 0, none⟩) ∧ wc.cell? ⟨V, 0, none⟩ = some (.int .i64 p1) ∧ wc.cell? ⟨V, 1, none⟩ = some (.int .i64 p2) ∧ V < wc.heap.size ∧ Below w2.heap.size w2 wc)
    case first =>
      go_region_held3 (fun w' => w'.cell? ⟨ba, oa + k, none⟩ = some (.int .i64 x) ∧ w'.cell? ⟨bb, ob + k, none⟩ = some (.int .i64 y) ∧ Below w2.heap.size w2 w' ∧ w2.heap.size ≤ w'.heap.size)
        (first | exact ⟨s1, s2, (Below.refl _ _).drew, Nat.le_refl _⟩ | assumption | exact twoW_call hba2 hbb2 ‹_› (by assumption) | exact twoW_call hba2 hbb2 ‹_› (below_alloc _ _) | exact twoW_call hba2 hbb2 ‹_› (below_alloc_drew _ _) | (refine twoW_set hba2 hbb2 (twoW_set hba2 hbb2 ?_ ?_) ?_ <;> first | assumption | omega) | fail)
        (first | (go_at_call 54; refine (hgain.out _).mono ?_; rintro e w3 ⟨rfl, hb3⟩; have hS := twoW_call hba2 hbb2 ‹_› hb3; have z3 := hb3.size; (try simp at z3); obtain ⟨hc, hf⟩ := bsome hb3; have l0 := hc w2.heap.size 0; have l1 := hc w2.heap.size 1; have l2 := hf w2.heap.size 0; have l3 := hf w2.heap.size 1; (try simp [go_sem] at l0); (try simp [go_sem] at l1); (try simp [go_sem] at l2); (try simp [go_sem] at l3); have m0 := last_cell hb3 0; have m1 := last_cell hb3 1; have m2 := last_frozen hb3 0; have m3 := last_frozen hb3 1; (try simp [go_sem] at m0); (try simp [go_sem] at m1); (try simp [go_sem] at m2); (try simp [go_sem] at m3)) | fail)
      all_goals
        go_wp2_with fail
        go_meet
        case rel =>
          obtain ⟨_, _, t1, t2⟩ := ‹_ ∧ _ ∧ _ ∧ _›
          refine ⟨_, rfl, ?fc0, ?fc1, ?fc2, t1⟩
          case fc0 => first | (simp [go_sem, *]; done) | exact (set2 (by simp [go_sem, *]) (by simp [go_sem, *])).1
          case fc1 => first | (simp [go_sem, *]; done) | exact (set2 (by simp [go_sem, *]) (by simp [go_sem, *])).2.1
          case fc2 => first | (refine lt_of_some (o := 0) ?_; simp [go_sem, *]; done) | exact (set2 (by simp [go_sem, *]) (by simp [go_sem, *])).2.2
    case rest =>
      obtain ⟨V, rfl, v0, v1, vl, hb3⟩ := hcut
      have R3 := hide (R2.out.below hb3 g2)
      have g3 : g < wc.heap.size := Nat.lt_of_lt_of_le g2 hb3.size
      have hB3 := hB2.trans (hb3.mono hB2.size)
      go_wp2_with (go_at_call 55; refine (HFB.out _ _ _ R3 g3).mono ?_; rintro e w4 ⟨rfl, hb4⟩; have q0 := (R3.out.below hb4 g3) j (by rw [HLn.out]; omega); rw [HQ'.out] at q0; simp only [Nat.zero_add] at q0; obtain ⟨q3, q4⟩ := q0; have vv0 := (hb4.cell (p := ⟨V, 0, none⟩) vl).trans v0; have vv1 := (hb4.cell (p := ⟨V, 1, none⟩) vl).trans v1; have vl4 := Nat.lt_of_lt_of_le vl hb4.size)
      go_wp2_with (go_at_call 56; refine (HLS.out _).mono ?_; rintro e w5 ⟨rfl, hb5⟩)
      go_ret2
      exact ⟨ret_bb HTT.out.symm, ((hB3.trans (hb4.mono hB3.size)).alloc (Nat.le_trans hB3.size hb4.size) _).trans (hb5.mono (by simp; have := hB3.size; have := hb4.size; omega))⟩
theorem is_any {a b : Option Addr} {n m c d : Nat} {fs cs : List Int} {w : World} (h : Hid (ARow w a fs)) (hn : Hid (fs.length = n)) (h' : Hid (ARow w b cs)) (hm : Hid (cs.length = m)) :
    Calls Try.prog 17 #[.slice a n c, .slice b m d] w fun e w' => e = .returned (.tuple #[.bool (stabB fs cs), .bool (Sh.sharedB fs cs)]) ∧ Below w.heap.size w w' := by
  unfold stabB
  cases hs : Sh.sharedB fs cs
  · exact is_bad h hn h' hm (hide hs)
  · obtain rfl := shared_len hn hm hs
    rw [← Sh.calm_eq hs]
    exact is_yes h hn h' hm (hide hs)
end Go.Proofs.Ytljccbnkibfimaa
