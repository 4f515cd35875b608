/-
  What l8Match and MatchLoads of the model answer: the matching, in memory of its own.
-/
import Derived.Test.YtfmdahpldjkifaaJh
import Derived.Test.YtfmdahpldjkifaaHv
namespace Go.Proofs.Ytfmdahpldjkifaa
open Go.RowKit

theorem own_any8 {w : World} {base n : Nat} {v : Value} {xs : List Int} (hx : xs.length = n) (h : w.ownsRow base 3 1 v n (ints xs)) : ∃ a cap, v = .slice a n cap ∧ ARow w a xs := by
  rcases h.2 with ⟨rfl, hn⟩ | ⟨g, cap, cur, rfl, _⟩
  · subst hn; exact ⟨none, 0, rfl, Or.inl (List.length_eq_zero_iff.1 hx)⟩
  · exact ⟨_, _, rfl, arow_owns hx.symm h⟩
theorem none8_snoc (k : Nat) : ints (Ma.none8 (k + 1)) = ints (Ma.none8 k) ++ [.int .i64 (-1)] := by
  unfold Ma.none8 ints
  rw [List.replicate_succ']
  simp
theorem next_own (F : List (List Bool)) (m own : List Int) (l : Nat) : (Ma.next F (m, own) l).2 = resO own (Ma.srch F own 9 l (List.replicate (Ma.bins F) false)) := by
  unfold Ma.next Ma.look resO
  generalize Ma.srch F own 9 l (List.replicate (Ma.bins F) false) = r
  obtain ⟨o, t⟩ := r
  cases o <;> rfl
theorem inv_ownB {F : List (List Bool)} {k : Nat} {m own : List Int} (h : Ma.Inv F k m own) : OwnB F.length own := fun b => by
  by_cases hb : b < Ma.bins F
  · rcases h.mo.om b hb with e | ⟨l, hl, e, _⟩
    · left; omega
    · exact Or.inr ⟨l, hl, e⟩
  · left
    have : own.getD b (-1) = -1 := by simp [show own.length ≤ b by rw [h.mo.lo]; omega]
    omega
set_option maxRecDepth 100000 in
set_option maxHeartbeats 1000000 in
theorem take_zero {a ao at' : Option Addr} {n c l C D : Nat} {F : List (List Bool)} {w : World} (hn : F.length = n) (hl : l < n) (hr : (F.getD l []).length = 0) (ha : GRow w a F) :
    Calls Try.prog 48 #[.slice a n c, .int .i64 l, .slice ao 0 C, .slice at' 0 D] w fun e w' => e = .returned (.bool false) ∧ w' = w := by
  obtain ⟨ba, oa, ai, ci, rfl, _, r0, _⟩ := ha.at (i := l) (by rw [hn]; exact hl)
  rw [hr] at r0
  have i0 : (0 : Int) ≤ (l : Int) := by omega
  have i1 : (l : Int) < (n : Int) := by omega
  clear ha hr hn
  go_enter Try.func48, Try.ntmps48
  go_wp2_with fail
  go_loop [8, 9, 10, 16] (fun s8 _ _ s => s8 = .bool false ∧ s = .int .i64 0) (fun _ _ _ _ => 0)
  case atStart => exact ⟨rfl, rfl⟩
  case round =>
    obtain ⟨rfl, rfl⟩ := hrel
    go_wp2_with fail
    go_ret
    exact ⟨rfl, rfl⟩
theorem take_w {a : Option Addr} {n c l M : Nat} {F : List (List Bool)} {m own : List Int} {v : Value} {w0 wr : World} (hn : F.length = n) (hG : Ma.goodB F = true) (hM : Ma.bins F = M) (hl : l < n) (ha : GRow w0 a F) (hO : OwnB n own) (ho : own.length = M) (hB : Below w0.heap.size w0 wr) (hown : wr.ownsRow w0.heap.size 3 1 v M (ints own)) :
    Calls Try.prog 48 #[.slice a n c, .int .i64 l, v, .slice (some ⟨wr.heap.size, 0, none⟩) M M] (wr.alloc (.cells (madeCells #[.bool false] M) 4)) fun e w' => ∃ r, e = .returned (.bool r) ∧ Below w0.heap.size w0 w' ∧ w'.ownsRow w0.heap.size 3 1 v M (ints (Ma.next F (m, own) l).2) := by
  have hM8 : M ≤ 8 := by rw [← hM]; exact Ma.goodB_bins hG
  have hBn := hB.alloc hB.size (.cells (madeCells #[.bool false] M) 4)
  have hro := Ma.goodB_row hG (show l < F.length by rw [hn]; exact hl)
  by_cases h0 : M = 0
  · subst h0
    obtain ⟨ao, C, rfl, _⟩ := own_any8 ho hown
    refine (take_zero hn hl (by rw [hro, hM]) (ha.below hBn)).mono ?_
    rintro e w' ⟨rfl, rfl⟩
    refine ⟨false, rfl, hBn, ?_⟩
    have e : (Ma.next F (m, own) l).2 = own := by
      rw [next_own, hM]
      simp [Ma.srch, Ma.scan, hM, resO_none]
    rw [e]
    exact hown.alloc _
  · obtain ⟨G, C, rfl⟩ : ∃ G C, v = .slice (some ⟨G, 0, none⟩) M C := by
      rcases hown.2 with ⟨_, hn⟩ | ⟨g, cap, cur, rfl, _⟩
      · exact absurd hn h0
      · exact ⟨_, _, rfl⟩
    have hGl := hown.lt G rfl
    have hT : TS w0 (wr.alloc (.cells (madeCells #[.bool false] M) 4)) G C wr.heap.size M own (List.replicate M false) :=
      ⟨hBn, hown.alloc _, owns_low (madeB_own wr M (by omega)) hB.size, by omega, ho, by simp⟩
    refine (take_any hn hG ha hM 9 l own (List.replicate M false) _ hl hO (by rw [Ma.left_new]; omega) hT).mono ?_
    rintro e w' ⟨rfl, hT'⟩
    refine ⟨_, rfl, hT'.1, ?_⟩
    rw [next_own, hM]
    exact hT'.2.1
theorem set_none8 (ys : List Int) (n k : Nat) (hy : ys.length = n) (hk : k < n) (h : ys.take k = (Ma.none8 n).take k) : (ys.set k (-1)).take (k + 1) = (Ma.none8 n).take (k + 1) := by
  have e : (Ma.none8 n).getD k 0 = -1 := by simp [Ma.none8, hk]
  have := getD_set_take (Ma.none8 n) ys k (by simp [Ma.none8, hy]) (by simp [Ma.none8, hk]) h
  rwa [e] at this
set_option maxRecDepth 20000 in
set_option maxHeartbeats 8000000 in
theorem smt_any {a : Option Addr} {n c : Nat} {F : List (List Bool)} {w : World} (hn : F.length = n) (hG : Ma.goodB F = true) (ha : GRow w a F) :
    Calls Try.prog 28 #[.slice a n c] w fun e w' => ∃ X, e = .returned (.slice (some ⟨X, 0, none⟩) n n) ∧ Below w.heap.size w w' ∧ w'.ownsRow w.heap.size 3 1 (.slice (some ⟨X, 0, none⟩) n n) n (ints (Ma.mat F)) := by
  have hM8 := Ma.goodB_bins hG
  have n8 : n ≤ 8 := by rw [← hn]; exact Ma.goodB_len hG
  have HBI := hide (sbi_any (c := c) hn ha)
  have HN := hide hn
  have HA := hide ha
  have HINV := hide fun (k : Nat) (hk : k ≤ n) => Ma.inv_upto hM8 k (show k ≤ F.length by rw [hn]; exact hk)
  have HTAKE := hide fun (k : Nat) (hk : k < n) (v : Value) (wr : World) (hB : Below w.heap.size w wr) (hown : wr.ownsRow w.heap.size 3 1 v (Ma.bins F) (ints (Ma.upto F k).2)) => take_w (c := c) (m := (Ma.upto F k).1) hn hG rfl hk ha (by have := inv_ownB (Ma.inv_upto hM8 k (by omega)); rwa [hn] at this) (Ma.inv_upto hM8 k (by omega)).mo.lo hB hown
  have HMO := hide (Ma.inv_mat hG).mo
  have HZ : Hid ((Ma.upto F 0).2 = Ma.none8 (Ma.bins F)) := hide rfl
  have HEND : Hid ((Ma.upto F n).2 = Ma.own F) := hide (by rw [← hn]; rfl)
  have HML : Hid ((Ma.mat F).length = n) := hide ((Ma.inv_mat hG).mo.lm.trans hn)
  have HOL : Hid ((Ma.own F).length = Ma.bins F) := hide (Ma.inv_mat hG).mo.lo
  have HP0 : Hid (Ma.part (Ma.mat F) 0 = Ma.none8 n) := hide (by rw [← hn]; exact Ma.part_zero (Ma.inv_mat hG).mo)
  have HPN := hide fun (k : Nat) (hk : k < Ma.bins F) => Ma.part_none (Ma.inv_mat hG).mo hk
  have HPS := hide fun (k l : Nat) (hk : k < Ma.bins F) => Ma.part_some (l := l) (Ma.inv_mat hG).mo hk
  have HPA : Hid (Ma.part (Ma.mat F) (Ma.bins F) = Ma.mat F) := hide (Ma.part_all (Ma.inv_mat hG).mo)
  have HOB := hide fun (b : Nat) (hb : b < Ma.bins F) => (Ma.inv_mat hG).mo.om b hb
  have hmkB := makeB_run (Ma.bins F) (by omega)
  have hmkI := makeI_run n (by omega)
  rw [hn] at HOB
  generalize Ma.bins F = M at *
  clear hn ha hG
  go_enter Try.func28, Try.ntmps28
  go_wp2_with fail
  refine HBI.out.mono ?_
  rintro e w1 ⟨rfl, hw1⟩
  obtain rfl : w = w1 := hw1.symm
  go_wp2_with fail
  go_loopw [3, 4] (fun s3 s wr => ∃ (k : Nat), s = .int .i64 ((M : Int) - k) ∧ k ≤ M ∧ wr.ownsRow w.heap.size 3 1 s3 k (ints (Ma.none8 k)) ∧ Below w.heap.size w wr) (fun _ s _ => (intOf s).toNat)
  case atStart => exact ⟨0, by simp, Nat.zero_le _, World.ownsRow_nil _ _ _ _, Below.refl _ _⟩
  case round =>
    obtain ⟨k, rfl, hk, hown, hB⟩ := hrel
    by_cases hlt : k < M
    · have i0 : (0 : Int) < (M : Int) - (k : Int) := by omega
      obtain ⟨v', w3, hr3, own3, hg3⟩ := push_int (x := -1) hown (by omega) hB.size
      rw [← none8_snoc] at own3
      have HO3 := hide own3
      have HB3 := hide (hB.trans (grown_under' hg3 hown (Nat.le_refl _) hB.size))
      clear own3 hg3 hown
      go_wp2_with (first | (at_builtin; refine Lib.wpList_append_run _ rfl _ _ _ _ rfl _ _ rfl rfl _ _ (hr3 _) ?_))
      go_roundw
      case rel => exact ⟨k + 1, by go_num, by omega, HO3.out, HB3.out⟩
      case measure => simp only [intOf]; omega
    · have hke : k = M := by omega
      subst hke
      have i0 : ¬ (0 : Int) < (k : Int) - (k : Int) := by omega
      have HO0 : Hid (wr.ownsRow w.heap.size 3 1 u3 k (ints (Ma.upto F 0).2)) := hide (by rw [HZ.out]; exact hown)
      have HB0 := hide hB
      obtain ⟨ao, C, hu3, _⟩ := own_any8 (show (Ma.none8 k).length = k by simp [Ma.none8]) hown
      subst hu3
      clear hown hB
      go_wp2_with fail
      go_loopw [5, 21] (fun _ s wr => ∃ (l : Nat), s = .int .i64 l ∧ l ≤ n ∧ Hid (wr.ownsRow w.heap.size 3 1 (.slice ao k C) k (ints (Ma.upto F l).2)) ∧ Hid (Below w.heap.size w wr)) (fun _ s _ => n - (intOf s).toNat)
      case atStart => exact ⟨0, rfl, Nat.zero_le _, HO0, HB0⟩
      case round =>
        clear HO0 HB0
        obtain ⟨l, rfl, hl, HO, HB⟩ := hrel
        by_cases hlt : l < n
        · have j0 : (0 : Int) ≤ (l : Int) := by omega
          have j1 : (l : Int) < (n : Int) := by omega
          have HC := hide (HTAKE.out l hlt _ wr HB.out HO.out)
          clear HO HB
          go_wp2_with fail
          refine HC.out.mono ?_
          rintro e w2 ⟨r, rfl, hb2, own2⟩
          have HO2 : Hid (w2.ownsRow w.heap.size 3 1 (.slice ao k C) k (ints (Ma.upto F (l + 1)).2)) := hide own2
          have HB2 := hide hb2
          clear own2 hb2
          go_wp2_with fail
          go_roundw
          case rel => exact ⟨l + 1, by go_num, by omega, HO2, HB2⟩
          case measure => simp only [intOf]; omega
        · have hle : l = n := by omega
          subst hle
          obtain ⟨W2, hW2⟩ : ∃ W2 : World, W2 = wr := ⟨_, rfl⟩
          subst hW2
          have HOW : Hid (ARow W2 ao (Ma.own F)) := hide (by
            have h1 := HO.out
            rw [HEND.out] at h1
            obtain ⟨a2, c2, e2, h2⟩ := own_any8 HOL.out h1
            cases e2
            exact h2)
          have HMD := hide (made_own W2 l (by omega))
          have HBX := hide (below_new W2 (.cells (madeCells #[.int .i64 0] l) 3))
          clear HO HTAKE HINV
          go_wp2_with fail
          go_loopw [7, 37] (fun _ s wi => ∃ (i : Nat) (ys : List Int), s = .int .i64 i ∧ i ≤ l ∧ ys.length = l ∧ Hid (ys.take i = (Ma.none8 l).take i) ∧ wi.ownsRow W2.heap.size 3 1 (.slice (some ⟨W2.heap.size, 0, none⟩) l l) l (ints ys) ∧ Hid (Below W2.heap.size W2 wi)) (fun _ s _ => l - (intOf s).toNat)
          case atStart => exact ⟨0, List.replicate l 0, rfl, Nat.zero_le _, by simp, hide (by simp), HMD.out, HBX⟩
          case round =>
            clear HMD HBX
            obtain ⟨i, ys, rfl, hi, hy, HT, hown, HBi⟩ := hrel
            by_cases hil : i < l
            · have k0 : (0 : Int) ≤ (i : Int) := by omega
              have k1 : (i : Int) < (l : Int) := by omega
              have c0 : wr.cell? ⟨W2.heap.size, i, none⟩ = some (.int .i64 (ys.getD i 0)) := by rw [hown.cellAt i (by omega), ints_get ys i (by omega)]
              have f0 := hown.frozenAt i
              have HSET := hide (set_none8 ys l i hy hil HT.out)
              obtain ⟨st1, st2⟩ := hown.stored i (.int .i64 (-1))
              rw [ints_set] at st1
              have HST := hide st1
              clear st1 hown
              go_wp2_with fail
              go_roundw
              case rel => exact ⟨i + 1, ys.set i (-1), by go_num, by omega, by simpa using hy, HSET, HST.out, hide (HBi.out.setCell (Nat.le_refl _) _)⟩
              case measure => simp only [intOf]; omega
            · have hie : i = l := by omega
              subst hie
              have hys : ys = Ma.part (Ma.mat F) 0 := by
                rw [HP0.out]
                have := HT.out
                rwa [List.take_of_length_le (by omega), List.take_of_length_le (by simp [Ma.none8])] at this
              have HO4 : Hid (wr.ownsRow W2.heap.size 3 1 (.slice (some ⟨W2.heap.size, 0, none⟩) i i) i (ints (Ma.part (Ma.mat F) 0))) := hide (by rw [← hys]; exact hown)
              clear hown hys
              go_wp2_with fail
              go_loopw [8, 9, 46] (fun _ _ s wi => ∃ (b : Nat), s = .int .i64 b ∧ b ≤ k ∧ Hid (wi.ownsRow W2.heap.size 3 1 (.slice (some ⟨W2.heap.size, 0, none⟩) i i) i (ints (Ma.part (Ma.mat F) b))) ∧ Hid (Below W2.heap.size W2 wi)) (fun _ _ s _ => k - (intOf s).toNat)
              case atStart => exact ⟨0, rfl, Nat.zero_le _, HO4, HBi⟩
              case round =>
                clear HO4 HBi
                obtain ⟨b, rfl, hb, HO, HBi⟩ := hrel
                by_cases hbk : b < k
                · obtain ⟨bo, oo, rfl, r1⟩ := (HOW.out.below HBi.out).at (i := b) (by rw [HOL.out]; exact hbk)
                  rw [show (Ma.own F).getD b 0 = (Ma.own F).getD b (-1) by simp [show b < (Ma.own F).length by rw [HOL.out]; exact hbk]] at r1
                  have k0 : (0 : Int) ≤ (b : Int) := by omega
                  have k1 : (b : Int) < (k : Int) := by omega
                  have HX1 := hide (HPN.out b hbk)
                  have HX2 := hide fun (q : Nat) => HPS.out b q hbk
                  rcases HOB.out b hbk with hx | ⟨q, hq, hx, _⟩
                  · rw [hx] at r1
                    have HO2 : Hid (wr.ownsRow W2.heap.size 3 1 (.slice (some ⟨W2.heap.size, 0, none⟩) i i) i (ints (Ma.part (Ma.mat F) (b + 1)))) := hide (by rw [HX1.out hx]; exact HO.out)
                    clear hx
                    go_wp2_with fail
                    go_roundw
                    case rel => exact ⟨b + 1, by go_num, by omega, HO2, HBi⟩
                    case measure => simp only [intOf]; omega
                  · rw [hx] at r1
                    have q0 : (0 : Int) ≤ (q : Int) := by omega
                    have q1 : (q : Int) < (i : Int) := by omega
                    have c0 : ∃ x, wr.cell? ⟨W2.heap.size, q, none⟩ = some (.int .i64 x) := ⟨_, by rw [HO.out.cellAt q (by omega), ints_get _ q (by rw [Ma.part_len, HML.out]; exact hq)]⟩
                    obtain ⟨x, c0⟩ := c0
                    have f0 := HO.out.frozenAt q
                    obtain ⟨st1, st2⟩ := HO.out.stored q (.int .i64 b)
                    rw [ints_set, HX2.out q hx] at st1
                    have HST := hide st1
                    clear st1 hx
                    go_wp2_with fail
                    go_roundw
                    case rel => exact ⟨b + 1, by go_num, by omega, HST, hide (HBi.out.setCell (Nat.le_refl _) _)⟩
                    case measure => simp only [intOf]; omega
                · have hbe : b = k := by omega
                  subst hbe
                  have HF : Hid (wr.ownsRow w.heap.size 3 1 (.slice (some ⟨W2.heap.size, 0, none⟩) i i) i (ints (Ma.mat F))) := hide (by
                    have := HO.out
                    rw [HPA.out] at this
                    exact owns_low this HB.out.size)
                  have HBF := hide (HB.out.trans (HBi.out.mono HB.out.size))
                  go_wp2_with fail
                  go_ret
                  exact ⟨_, rfl, HBF.out, HF.out⟩
/-- What MatchLoads answers. -/
def mtL (F : List (List Bool)) : List Int := if Ma.goodB F then Ma.mat F else []
theorem mtL_le (F : List (List Bool)) : (mtL F).length ≤ 1048576 := by
  unfold mtL
  cases hg : Ma.goodB F
  · simp
  · rw [if_pos rfl, (Ma.inv_mat hg).mo.lm]; have := Ma.goodB_len hg; omega
set_option maxRecDepth 100000 in
set_option maxHeartbeats 2000000 in
theorem sml_w {a : Option Addr} {n c : Nat} {F : List (List Bool)} {w : World} (hn : F.length = n) (hl : n ≤ 1048576) (ha : GRow w a F) :
    Calls Try.prog 7 #[.slice a n c] w fun e w' => ∃ v, e = .returned (.tuple #[v, .bool (Ma.goodB F)]) ∧ Below w.heap.size w w' ∧ w'.ownsRow w.heap.size 3 1 v (mtL F).length (ints (mtL F)) := by
  unfold mtL
  have HA := hide ha
  have HN := hide hn
  cases hg : Ma.goodB F
  · have HG := hide hg
    clear ha hn hg
    go_enter Try.func7, Try.ntmps7
    go_wp2_with fail
    refine (sgf_eq HN hl HA HG).mono ?_
    rintro e w1 ⟨rfl, rfl⟩
    go_wp2_with fail
    go_ret2
    exact ⟨_, rfl, Below.refl _ _, World.ownsRow_nil _ _ _ _⟩
  · have HG := hide hg
    have HC := hide (smt_any (c := c) hn hg ha)
    have HL : Hid ((Ma.mat F).length = n) := hide ((Ma.inv_mat hg).mo.lm.trans hn)
    clear ha hn hg
    go_enter Try.func7, Try.ntmps7
    go_wp2_with fail
    refine (sgf_eq HN hl HA HG).mono ?_
    rintro e w1 ⟨rfl, hw1⟩
    obtain rfl : w = w1 := hw1.symm
    go_wp2_with fail
    refine HC.out.mono ?_
    rintro e w1 ⟨X, rfl, hb1, own1⟩
    have HO := hide own1
    clear own1
    go_wp2_with fail
    go_ret2
    refine ⟨_, rfl, hb1, ?_⟩
    show w1.ownsRow _ 3 1 _ (Ma.mat F).length (ints (Ma.mat F))
    rw [HL.out]
    exact HO.out
end Go.Proofs.Ytfmdahpldjkifaa
