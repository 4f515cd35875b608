/-
  What l3Rank of the model answers: the ranks, in memory of its own.
-/
import Derived.Test.YtlbagigghpiifaaPe
import Derived.Deep.AppendLies
import Derived.Laws.AppendOwnNone
namespace Go.Proofs.Ytlbagigghpiifaa
open Go.RowKit Go.Sort

theorem nats_get (l : List Nat) (j : Nat) : (nats l).getD j 0 = ((l.getD j 0 : Nat) : Int) := by
  simp only [nats, List.getD_eq_getElem?_getD, List.getElem?_map]
  cases l[j]? <;> rfl
theorem nats_take (l : List Nat) (j : Nat) : (nats l).take j = nats (l.take j) := by simp [nats, List.map_take]
theorem nats_drop (l : List Nat) (j : Nat) : (nats l).drop j = nats (l.drop j) := by simp [nats, List.map_drop]
theorem ints_app (xs ys : List Int) : ints (xs ++ ys) = ints xs ++ ints ys := by simp [ints]
theorem nats_ins (l : List Nat) (j k : Nat) : nats (l.take j ++ k :: l.drop j) = (nats l).take j ++ [(k : Int)] ++ (nats l).drop j := by simp [nats, List.map_take, List.map_drop]

set_option maxHeartbeats 4000000 in
set_option maxRecDepth 100000 in
theorem srank_any {a : Option Addr} {n c : Nat} {vs : List Int} {w : World} (hv : vs.length = n) (hn : n ≤ 12) (ha : ARow w a vs) :
    Calls Try.prog 47 #[.slice a n c] w fun e w' => ∃ v, e = .returned v ∧ Below w.heap.size w w' ∧ w'.ownsRow w.heap.size 3 1 v n (ints (nats (Rk.rank vs))) := by
  obtain ⟨i0, hi, hz0, hz1, hz2⟩ := info_parts inf3
  have HA := hide ha
  have HV := hide hv
  clear ha hv
  go_enter Try.func47, Try.ntmps47
  go_wp2_with fail
  go_loopw [3, 4, 5, 6, 7, 10] (fun v _ _ _ _ s wr => ∃ (k : Nat), s = .int .i64 k ∧ k ≤ n ∧ (k = 0 → v = .slice none 0 0) ∧ wr.ownsRow w.heap.size 3 1 v k (ints (nats (Rk.upto vs k))) ∧ Below w.heap.size w wr) (fun _ _ _ _ _ s _ => n - (intOf s).toNat)
  case atStart => exact ⟨0, rfl, Nat.zero_le _, fun _ => rfl, World.ownsRow_nil w w.heap.size 3 1, Below.refl _ _⟩
  case round =>
    obtain ⟨k, rfl, hk, hnil, hown, hB⟩ := hrel
    by_cases hlt : k < n
    · have HAr := hide (HA.out.keep hB.size hB.block)
      obtain ⟨ba, oa, rfl, r1⟩ := HAr.out.at (i := k) (by rw [HV.out]; exact hlt)
      have k0 : (0 : Int) ≤ (k : Int) := by omega
      have k1 : (k : Int) < (n : Int) := by omega
      have hs := hB.size
      by_cases hk0 : k = 0
      · subst hk0
        obtain rfl := hnil rfl
        have E0 := empty_row wr
        rw [Nat.add_zero] at r1
        generalize vs.getD 0 0 = x at r1
        go_wp2_with fail
        go_loop [6] (fun s => s = .int .i64 0) (fun _ => 0)
        case atStart => rfl
        case round =>
          subst hrel
          go_wp2_with (first
            | (at_builtin; refine wpList_append_own _ rfl _ _ 22 rfl wr.heap.size 3 i0 (.int .i64 0) 1 8 Try.underlying22 hi hz0 hz1 hz2 rfl (by decide) _ _ _ rfl (E0.alloc _) ⟨wr.heap.size + 1, 0, none⟩ 1 1 (ints [0]) rfl rfl (new_one _ _ (by simp)) (int_cells _) (by unfold maxLen; omega) (by omega) (by simp; omega) ?_))
          intro v2 w2 own2 hg2 _
          have own2' : w2.ownsRow wr.heap.size 3 1 v2 1 (ints [0]) := own2
          go_wp2_with (first
            | (at_builtin; refine wpList_append_own_none rfl _ _ 22 rfl wr.heap.size 3 i0 1 Try.underlying22 hi _ _ _ rfl own2' rfl ?_))
          go_wp2_with fail
          go_roundw
          case rel => exact ⟨1, by go_num, by omega, fun h => by omega, owns_base own2' hs, (hB.alloc hs _).trans (((Below.refl _ _).alloc (by simp; omega) _).trans (grownBy_below hg2 hs (by simp; omega)))⟩
          case measure => simp only [intOf]; omega
      · obtain ⟨g, cap, rfl, hg0, hgl⟩ := hown.form (by omega)
        have E0 := hide (empty_row wr)
        have HO := hide hown
        have hul := Rk.upto_len vs k
        have hcap : k ≤ cap := by
          rcases hown.2 with ⟨h0, _⟩ | ⟨g', cap', cur, hv', _, _, h1, _⟩
          · cases h0
          · cases hv'; exact h1
        generalize hx : vs.getD k 0 = x at r1
        have HX := hide hx
        clear hown hx hnil
        go_wp2_with fail
        go_loop [6] (fun s => ∃ j : Nat, s = .int .i64 j ∧ j ≤ k ∧ Hid (∀ t, t < j → Rk.val vs ((Rk.upto vs k).getD t 0) ≥ Rk.val vs k)) (fun s => k - (intOf s).toNat)
        case atStart => exact ⟨0, rfl, Nat.zero_le _, hide fun t ht => absurd ht (Nat.not_lt_zero _)⟩
        case round =>
          obtain ⟨j, rfl, hj, HJ⟩ := hrel
          -- behind the search
          have rest : (j < k → Rk.val vs ((Rk.upto vs k).getD j 0) < Rk.val vs k) → Hid (nats (Rk.upto vs (k + 1)) = (nats (Rk.upto vs k)).take j ++ [(k : Int)] ++ (nats (Rk.upto vs k)).drop j) := fun h => by
            show nats (Rk.insL vs k (Rk.upto vs k)) = _
            rw [Rk.insL_at vs k (Rk.upto vs k) j (by rw [hul]; exact hj) HJ.out (fun h' => h (by rw [← hul]; exact h')), nats_ins]
          have REST := hide rest
          clear rest
          by_cases hjk : j < k
          · have j0 : (0 : Int) ≤ (j : Int) := by omega
            have j1 : (j : Int) < (k : Int) := by omega
            have c1 : wr.cell? ⟨g, j, none⟩ = some (.int .i64 ((nats (Rk.upto vs k)).getD j 0)) := by rw [HO.out.cellAt j (by omega), ints_get _ j (by rw [nats_len, hul]; omega)]
            rw [nats_get] at c1
            have hm : (Rk.upto vs k).getD j 0 < n := by
              have hmem : (Rk.upto vs k).getD j 0 ∈ Rk.upto vs k := by rw [Pf.getD_lt _ _ (by rw [hul]; exact hjk)]; exact List.getElem_mem _
              have := Rk.upto_mem hmem; omega
            generalize hq : (Rk.upto vs k).getD j 0 = q at c1 hm
            obtain ⟨ba', oa', hba, r2⟩ := HAr.out.at (i := q) (by rw [HV.out]; exact hm)
            cases hba
            have q0 : (0 : Int) ≤ (q : Int) := by omega
            have q1 : (q : Int) < (n : Int) := by omega
            by_cases hge : x ≤ Rk.val vs q
            · have r2' : wr.cell? ⟨ba, oa + q, none⟩ = some (.int .i64 (Rk.val vs q)) := r2
              have HJ' : Hid (∀ t, t < j + 1 → Rk.val vs ((Rk.upto vs k).getD t 0) ≥ Rk.val vs k) := hide fun t ht => by
                by_cases e : t = j
                · subst e; rw [hq]; show _ ≥ vs.getD k 0; rw [HX.out]; exact hge
                · exact HJ.out t (by omega)
              generalize Rk.val vs q = y at r2' hge
              clear hq r2
              go_wp2_with fail
              go_round
              case rel => exact ⟨j + 1, by go_num, by omega, HJ'⟩
              case measure => simp only [intOf]; omega
            · have r2' : wr.cell? ⟨ba, oa + q, none⟩ = some (.int .i64 (Rk.val vs q)) := r2
              have HR := REST.out (fun _ => by rw [hq]; show _ < vs.getD k 0; rw [HX.out]; omega)
              generalize Rk.val vs q = y at r2' hge
              have hge' : decide (x ≤ y) = false := decide_eq_false hge
              clear hq r2
              have HL : Hid ((ints ((nats (Rk.upto vs k)).take j)).length = j * 1) := by
                show _ = _
                rw [ints_len, List.length_take, nats_len, hul]; omega
              have HN1 : Hid (∀ (t : Nat) (u : Value), (ints ((nats (Rk.upto vs k)).take j))[t]? = some u → (wr.alloc (.cells #[] 3)).cell? ((⟨g, 0, none⟩ : Addr).add t) = some u) :=
                news_at (cells_kept (((Below.refl _ _).alloc (Nat.le_refl _) _).block g hgl) (own_take HO.out (by rw [nats_len, hul]) hj))
              go_wp2_with (first
                | (at_builtin; refine wpList_append_own _ rfl _ _ 22 rfl wr.heap.size 3 i0 (.int .i64 0) 1 8 Try.underlying22 hi hz0 hz1 hz2 rfl (by decide) _ _ _ rfl E0.out ⟨g, 0, none⟩ j cap (ints ((nats (Rk.upto vs k)).take j)) rfl HL.out HN1.out (int_cells _) (by unfold maxLen; omega) (by omega) (by simp) ?_))
              intro v1 w1 own1 hg1 _
              have own1' : w1.ownsRow wr.heap.size 3 1 v1 j (ints ((nats (Rk.upto vs k)).take j)) := by simpa [ints] using own1
              have hs1 : wr.heap.size ≤ w1.heap.size := Nat.le_trans (by simp) hg1.size
              have hgk1 := hg1.block g (by simp; omega) (far_block E0.out hgl)
              clear own1
              go_wp2_with (first
                | (at_builtin; refine wpList_append_own _ rfl _ _ 22 rfl wr.heap.size 3 i0 (.int .i64 0) 1 8 Try.underlying22 hi hz0 hz1 hz2 rfl (by decide) _ _ _ rfl (own1'.alloc _) ⟨w1.heap.size, 0, none⟩ 1 1 (ints [(k : Int)]) rfl rfl (new_one _ _ rfl) (int_cells _) (by unfold maxLen; omega) (by omega) (by simp; omega) ?_))
              intro v2 w2 own2 hg2 _
              have own2' : w2.ownsRow wr.heap.size 3 1 v2 (j + 1) (ints ((nats (Rk.upto vs k)).take j ++ [(k : Int)])) := by rw [ints_app]; exact own2
              have hs2 : wr.heap.size ≤ w2.heap.size := Nat.le_trans hs1 (Nat.le_trans (by simp) hg2.size)
              have hgk2 := (hg2.block g (by simp; omega) (far_block own1' hgl)).trans (((Below.refl _ _).alloc (Nat.le_refl _) _).block g (by omega))
              have HN2 : Hid (∀ (t : Nat) (u : Value), (ints ((nats (Rk.upto vs k)).drop j))[t]? = some u → w2.cell? ((⟨g, j, none⟩ : Addr).add t) = some u) :=
                news_at (cells_kept (hgk2.trans (hgk1.trans (((Below.refl _ _).alloc (Nat.le_refl _) _).block g hgl))) (own_drop HO.out (by rw [nats_len, hul]) j))
              have HL2 : Hid ((ints ((nats (Rk.upto vs k)).drop j)).length = (k - j) * 1) := by
                show _ = _
                rw [ints_len, List.length_drop, nats_len, hul]; omega
              have HB2 : Hid (Below w.heap.size w w2) := hide ((hB.alloc hs _).trans ((grownBy_below hg1 hs (by simp; omega)).trans (((Below.refl _ _).alloc (by omega) _).trans (by
                refine ⟨hg2.os, hg2.tape, hg2.output, hg2.size, fun b hb => hg2.block b (by simp; omega) (far_block own1' (by omega))⟩))))
              clear own2 hgk2 hgk1 hg1 hg2 own1'
              go_wp2_with (first
                | (at_builtin; refine wpList_append_own _ rfl _ _ 22 rfl wr.heap.size 3 i0 (.int .i64 0) 1 8 Try.underlying22 hi hz0 hz1 hz2 rfl (by decide) _ _ _ rfl own2' ⟨g, j, none⟩ (k - j) (cap - j) (ints ((nats (Rk.upto vs k)).drop j)) rfl HL2.out HN2.out (int_cells _) (by unfold maxLen; omega) (by omega) hs2 ?_))
              intro v3 w3 own3 hg3 _
              have own3' : w3.ownsRow wr.heap.size 3 1 v3 (k + 1) (ints (nats (Rk.upto vs (k + 1)))) := by
                rw [HR.out, ints_app]
                have e : j + 1 + (k - j) = k + 1 := by omega
                rw [e] at own3
                exact own3
              clear own3
              go_wp2_with fail
              go_roundw
              case rel => exact ⟨k + 1, by go_num, by omega, fun h => by omega, owns_base own3' hs, HB2.out.trans ⟨hg3.os, hg3.tape, hg3.output, hg3.size, fun b hb => hg3.block b (by omega) (far_block own2' (by omega))⟩⟩
              case measure => simp only [intOf]; omega
          · have HR := REST.out (fun h => by omega)
            have hjz : ¬ (j : Int) < (k : Int) := by omega
            have hjz' : decide ((j : Int) < (k : Int)) = false := decide_eq_false hjz
            by_cases hcj : cap = j
            · obtain rfl := hcj.symm
              have HL : Hid ((ints ((nats (Rk.upto vs k)).take j)).length = j * 1) := by
                show _ = _
                rw [ints_len, List.length_take, nats_len, hul]; omega
              have HN1 : Hid (∀ (t : Nat) (u : Value), (ints ((nats (Rk.upto vs k)).take j))[t]? = some u → (wr.alloc (.cells #[] 3)).cell? ((⟨g, 0, none⟩ : Addr).add t) = some u) :=
                news_at (cells_kept (((Below.refl _ _).alloc (Nat.le_refl _) _).block g hgl) (own_take HO.out (by rw [nats_len, hul]) hj))
              go_wp2_with (first
                | (at_builtin; refine wpList_append_own _ rfl _ _ 22 rfl wr.heap.size 3 i0 (.int .i64 0) 1 8 Try.underlying22 hi hz0 hz1 hz2 rfl (by decide) _ _ _ rfl E0.out ⟨g, 0, none⟩ j j (ints ((nats (Rk.upto vs k)).take j)) rfl HL.out HN1.out (int_cells _) (by unfold maxLen; omega) (by omega) (by simp) ?_))
              intro v1 w1 own1 hg1 _
              have own1' : w1.ownsRow wr.heap.size 3 1 v1 j (ints ((nats (Rk.upto vs k)).take j)) := by simpa [ints] using own1
              have hs1 : wr.heap.size ≤ w1.heap.size := Nat.le_trans (by simp) hg1.size
              clear own1
              go_wp2_with (first
                | (at_builtin; refine wpList_append_own _ rfl _ _ 22 rfl wr.heap.size 3 i0 (.int .i64 0) 1 8 Try.underlying22 hi hz0 hz1 hz2 rfl (by decide) _ _ _ rfl (own1'.alloc _) ⟨w1.heap.size, 0, none⟩ 1 1 (ints [(k : Int)]) rfl rfl (new_one _ _ rfl) (int_cells _) (by unfold maxLen; omega) (by omega) (by simp; omega) ?_))
              intro v2 w2 own2 hg2 _
              have own2' : w2.ownsRow wr.heap.size 3 1 v2 (j + 1) (ints ((nats (Rk.upto vs k)).take j ++ [(k : Int)])) := by rw [ints_app]; exact own2
              have hs2 : wr.heap.size ≤ w2.heap.size := Nat.le_trans hs1 (Nat.le_trans (by simp) hg2.size)
              have HN2 : Hid (∀ (t : Nat) (u : Value), (ints ((nats (Rk.upto vs k)).drop j))[t]? = some u → w2.cell? ((⟨g, 0, none⟩ : Addr).add t) = some u) := by
                rw [List.drop_eq_nil_of_le (by rw [nats_len, hul]; omega)]; exact fun t u h => by simp [ints] at h
              have HL2 : Hid ((ints ((nats (Rk.upto vs k)).drop j)).length = 0 * 1) := by
                show _ = _
                rw [ints_len, List.length_drop, nats_len, hul]; omega
              have HB2 : Hid (Below w.heap.size w w2) := hide ((hB.alloc hs _).trans ((grownBy_below hg1 hs (by simp; omega)).trans (((Below.refl _ _).alloc (by omega) _).trans (by
                refine ⟨hg2.os, hg2.tape, hg2.output, hg2.size, fun b hb => hg2.block b (by simp; omega) (far_block own1' (by omega))⟩))))
              clear own2 hg1 hg2 own1'
              go_wp2_with (first
                | (at_builtin; refine wpList_append_own _ rfl _ _ 22 rfl wr.heap.size 3 i0 (.int .i64 0) 1 8 Try.underlying22 hi hz0 hz1 hz2 rfl (by decide) _ _ _ rfl own2' ⟨g, 0, none⟩ 0 0 (ints ((nats (Rk.upto vs k)).drop j)) rfl HL2.out HN2.out (int_cells _) (by unfold maxLen; omega) (by omega) hs2 ?_))
              intro v3 w3 own3 hg3 _
              have own3' : w3.ownsRow wr.heap.size 3 1 v3 (k + 1) (ints (nats (Rk.upto vs (k + 1)))) := by
                rw [HR.out, ints_app]
                have e : j + 1 + 0 = k + 1 := by omega
                rw [e] at own3
                exact own3
              clear own3
              go_wp2_with fail
              go_roundw
              case rel => exact ⟨k + 1, by go_num, by omega, fun h => by omega, owns_base own3' hs, HB2.out.trans ⟨hg3.os, hg3.tape, hg3.output, hg3.size, fun b hb => hg3.block b (by omega) (far_block own2' (by omega))⟩⟩
              case measure => simp only [intOf]; omega
            · have hcl : j < cap := by omega
              have HL : Hid ((ints ((nats (Rk.upto vs k)).take j)).length = j * 1) := by
                show _ = _
                rw [ints_len, List.length_take, nats_len, hul]; omega
              have HN1 : Hid (∀ (t : Nat) (u : Value), (ints ((nats (Rk.upto vs k)).take j))[t]? = some u → (wr.alloc (.cells #[] 3)).cell? ((⟨g, 0, none⟩ : Addr).add t) = some u) :=
                news_at (cells_kept (((Below.refl _ _).alloc (Nat.le_refl _) _).block g hgl) (own_take HO.out (by rw [nats_len, hul]) hj))
              go_wp2_with (first
                | (at_builtin; refine wpList_append_own _ rfl _ _ 22 rfl wr.heap.size 3 i0 (.int .i64 0) 1 8 Try.underlying22 hi hz0 hz1 hz2 rfl (by decide) _ _ _ rfl E0.out ⟨g, 0, none⟩ j cap (ints ((nats (Rk.upto vs k)).take j)) rfl HL.out HN1.out (int_cells _) (by unfold maxLen; omega) (by omega) (by simp) ?_))
              intro v1 w1 own1 hg1 _
              have own1' : w1.ownsRow wr.heap.size 3 1 v1 j (ints ((nats (Rk.upto vs k)).take j)) := by simpa [ints] using own1
              have hs1 : wr.heap.size ≤ w1.heap.size := Nat.le_trans (by simp) hg1.size
              have hgk1 := hg1.block g (by simp; omega) (far_block E0.out hgl)
              clear own1
              go_wp2_with (first
                | (at_builtin; refine wpList_append_own _ rfl _ _ 22 rfl wr.heap.size 3 i0 (.int .i64 0) 1 8 Try.underlying22 hi hz0 hz1 hz2 rfl (by decide) _ _ _ rfl (own1'.alloc _) ⟨w1.heap.size, 0, none⟩ 1 1 (ints [(k : Int)]) rfl rfl (new_one _ _ rfl) (int_cells _) (by unfold maxLen; omega) (by omega) (by simp; omega) ?_))
              intro v2 w2 own2 hg2 _
              have own2' : w2.ownsRow wr.heap.size 3 1 v2 (j + 1) (ints ((nats (Rk.upto vs k)).take j ++ [(k : Int)])) := by rw [ints_app]; exact own2
              have hs2 : wr.heap.size ≤ w2.heap.size := Nat.le_trans hs1 (Nat.le_trans (by simp) hg2.size)
              have hgk2 := (hg2.block g (by simp; omega) (far_block own1' hgl)).trans (((Below.refl _ _).alloc (Nat.le_refl _) _).block g (by omega))
              have HN2 : Hid (∀ (t : Nat) (u : Value), (ints ((nats (Rk.upto vs k)).drop j))[t]? = some u → w2.cell? ((⟨g, j, none⟩ : Addr).add t) = some u) :=
                news_at (cells_kept (hgk2.trans (hgk1.trans (((Below.refl _ _).alloc (Nat.le_refl _) _).block g hgl))) (own_drop HO.out (by rw [nats_len, hul]) j))
              have HL2 : Hid ((ints ((nats (Rk.upto vs k)).drop j)).length = (k - j) * 1) := by
                show _ = _
                rw [ints_len, List.length_drop, nats_len, hul]; omega
              have HB2 : Hid (Below w.heap.size w w2) := hide ((hB.alloc hs _).trans ((grownBy_below hg1 hs (by simp; omega)).trans (((Below.refl _ _).alloc (by omega) _).trans (by
                refine ⟨hg2.os, hg2.tape, hg2.output, hg2.size, fun b hb => hg2.block b (by simp; omega) (far_block own1' (by omega))⟩))))
              clear own2 hgk2 hgk1 hg1 hg2 own1'
              go_wp2_with (first
                | (at_builtin; refine wpList_append_own _ rfl _ _ 22 rfl wr.heap.size 3 i0 (.int .i64 0) 1 8 Try.underlying22 hi hz0 hz1 hz2 rfl (by decide) _ _ _ rfl own2' ⟨g, j, none⟩ (k - j) (cap - j) (ints ((nats (Rk.upto vs k)).drop j)) rfl HL2.out HN2.out (int_cells _) (by unfold maxLen; omega) (by omega) hs2 ?_))
              intro v3 w3 own3 hg3 _
              have own3' : w3.ownsRow wr.heap.size 3 1 v3 (k + 1) (ints (nats (Rk.upto vs (k + 1)))) := by
                rw [HR.out, ints_app]
                have e : j + 1 + (k - j) = k + 1 := by omega
                rw [e] at own3
                exact own3
              clear own3
              go_wp2_with fail
              go_roundw
              case rel => exact ⟨k + 1, by go_num, by omega, fun h => by omega, owns_base own3' hs, HB2.out.trans ⟨hg3.os, hg3.tape, hg3.output, hg3.size, fun b hb => hg3.block b (by omega) (far_block own2' (by omega))⟩⟩
              case measure => simp only [intOf]; omega
    · have hke : k = n := by omega
      subst hke
      have hrk : Rk.upto vs k = Rk.rank vs := by unfold Rk.rank; rw [HV.out]
      rw [hrk] at hown
      go_wp2_with fail
      go_ret
      exact ⟨_, rfl, hB, hown⟩
end Go.Proofs.Ytlbagigghpiifaa
