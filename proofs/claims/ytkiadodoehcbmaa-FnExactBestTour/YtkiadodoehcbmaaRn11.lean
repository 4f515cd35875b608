/-
  The tree's round: what stopsFrom and TreeTour of the program, l11Walk and TreeTour of the model answer.
-/
import Derived.Test.YtkiadodoehcbmaaRm11
import Derived.Test.YtkiadodoehcbmaaRl11
namespace Go.Proofs.Ytkiadodoehcbmaa
open Go.RowKit

theorem cst_app (I K : List Nat) : ints (cst I) ++ ints (cst K) = ints (cst (I ++ K)) := by simp [cst, ints]
/-- A list of ints behind an owned one. -/
theorem app_all {w : World} {base n m c : Nat} {v : Value} {a : Option Addr} {I K : List Nat} (hn : I.length = n) (hm : K.length = m) (h7 : n ≤ 1000) (h8 : m ≤ 1000) (hown : w.ownsRow base 3 1 v n (ints (cst I))) (ha : ARow w a (cst K)) (hb : base ≤ w.heap.size) :
    ∃ v' w', (∀ ty, (Builtin.append_ #[36, 36] ty #[v, .slice a m c]).run Try.prog w = .ok v' w') ∧ w'.ownsRow base 3 1 v' (n + m) (ints (cst (I ++ K))) ∧ w.grownBy w' v.ownBlock := by
  obtain ⟨i0, hi, hz0, hz1, hz2⟩ := infoI
  obtain ⟨v', w', h1, h2, h3⟩ := run_append_v (P := Try.prog) w base 36 0 3 i0 _ 8 Try.underlying36 hi hz0 hz1 hz2 rfl v n _ hown a m c (ints (cst K)) (by rw [ints_len, cst_len, hm]) ha.vrow (fun u hu => by simp only [ints, List.mem_map] at hu; obtain ⟨_, _, rfl⟩ := hu; rfl) (by unfold maxLen; omega) (by omega) hb
  rw [cst_app] at h2
  exact ⟨v', w', fun _ => h1, h2, h3⟩
/-- The program's walk. -/
def SfP (w : World) (K : List Nat) (e : Ending) (w' : World) : Prop := ∃ v, e = .returned v ∧ Below w.heap.size w w' ∧ w'.ownsRow w.heap.size 3 1 v K.length (ints (cst K))
set_option maxHeartbeats 4000000 in
theorem sf_any {n : Nat} {up : List Int} {r : Nat → Nat} (hR : Hid (Rt.Rnk n up r)) (hn : n ≤ 7) : ∀ (f : Nat) {a : Option Addr} {c k : Nat} {w : World}, n ≤ f + r k → k < n → Hid (ARow w a up) →
    Calls Try.prog 48 #[.slice a n c, .int .i64 (k : Int)] w (SfP w (Rt.wk up f k))
  | 0, a, c, k, w, hf, hk, ha => by
    have := hR.out.bd k hk
    omega
  | f + 1, a, c, k, w, hf, hk, ha => by
    have HIH := hide fun (i : Nat) (W : World) (h1 : up.getD i 0 = (k : Int)) (h2 : i < n) (h3 : Hid (ARow W a up)) => sf_any hR hn f (c := c) (k := i) (w := W) (by have := (hR.out.up1 i h2 k h1).2; omega) h2 h3
    have hW0 := below_new w (.cells #[.int .i64 (k : Int)] 3)
    have HO0 : Hid ((w.alloc (.cells #[.int .i64 (k : Int)] 3)).ownsRow w.heap.size 3 1 (.slice (some ⟨w.heap.size, 0, none⟩) 1 1) (Rt.wkTo up f k 0).length (ints (cst (Rt.wkTo up f k 0)))) := hide (by
      have h := World.ownsRow_lit (base := w.heap.size) (e := 3) (size := 1) w #[.int .i64 (k : Int)] 1 (Nat.le_refl _) (by unfold maxLen; omega) (by simp)
      simpa [cst, ints, Rt.wkTo] using h)
    have HB0 := hide hW0
    obtain ⟨w0, hw0⟩ : ∃ w0, w.alloc (.cells #[.int .i64 (k : Int)] 3) = w0 := ⟨_, rfl⟩
    rw [hw0] at HO0 HB0
    have HW := hide hw0
    have HWL := hide fun (i : Nat) (hi : i < n) => (Rt.wk_len hR.out f i hi).2
    have hul := hR.out.len
    have HUL := hide hul
    have hTL : Hid (∀ i, i ≤ n → (Rt.wkTo up f k i).length ≤ n) := hide fun i hi => by
      have h1 := (Rt.wk_len hR.out (f + 1) k hk).2
      rw [← Rt.wkTo_end up f k n hul] at h1
      have h2 : ∀ d, (Rt.wkTo up f k i).length ≤ (Rt.wkTo up f k (i + d)).length := fun d => by
        induction d with
        | zero => exact Nat.le_refl _
        | succ d ih =>
          refine Nat.le_trans ih ?_
          rw [show i + (d + 1) = (i + d) + 1 by omega, Rt.wkTo_succ]
          split
          · rw [List.length_append]; omega
          · exact Nat.le_refl _
      have := h2 (n - i)
      rw [show i + (n - i) = n by omega] at this
      omega
    clear hW0 hw0
    go_enter Try.func48, Try.ntmps48
    go_upto_region 2 with fail
    rw [HW.out]
    clear HW
    go_wp2_with fail
    go_loopw [5, 6, 7, 12] (fun v _ _ s wr => ∃ (i : Nat), s = .int .i64 i ∧ i ≤ n ∧ Hid (wr.ownsRow w.heap.size 3 1 v (Rt.wkTo up f k i).length (ints (cst (Rt.wkTo up f k i)))) ∧ Hid (Below w.heap.size w wr)) (fun _ _ _ s _ => n - (intOf s).toNat)
    case atStart => exact ⟨0, rfl, Nat.zero_le _, HO0, HB0⟩
    case round =>
      clear HO0 HB0
      obtain ⟨i, rfl, hi, HO, HB⟩ := hrel
      by_cases hlt : i < n
      · obtain ⟨b, off, ea, r0⟩ := (ha.out.below HB.out).at (i := i) (by rw [HUL.out]; exact hlt)
        subst ea
        have i0 : (0 : Int) ≤ (i : Int) := by omega
        have i1 : (i : Int) < (n : Int) := by omega
        have HS := hide (Rt.wkTo_succ up f k i)
        by_cases he : up.getD i 0 = (k : Int)
        · have HS2 : Hid (Rt.wkTo up f k (i + 1) = Rt.wkTo up f k i ++ Rt.wk up f i) := hide (by rw [HS.out, if_pos he])
          have HC := hide (HIH.out i wr he hlt (hide (ha.out.below HB.out)))
          rw [he] at r0
          clear he HS
          go_wp2_with fail
          refine HC.out.mono ?_
          rintro e w2 ⟨v2, rfl, hb2, own2⟩
          obtain ⟨a2, c2, rfl, r2⟩ := own_row (cst_len _) own2
          have o1 := own_below HO.out hb2
          have hB2 := bw_below HB.out hb2
          obtain ⟨v3, w3, hr3, own3, hg3⟩ := app_all (c := c2) rfl rfl (by have := hTL.out i hi; omega) (by have := HWL.out i hlt; omega) o1 r2 hB2.size
          have HO3 : Hid (w3.ownsRow w.heap.size 3 1 v3 (Rt.wkTo up f k (i + 1)).length (ints (cst (Rt.wkTo up f k (i + 1))))) := hide (by rw [HS2.out, List.length_append]; exact own3)
          have HB3 := hide (hB2.trans (grown_under10 hg3 (fun b e => (o1.lt b e).1) hB2.size))
          clear own2 own3 hg3 o1 r2 hb2 hB2 HO HB HS2 HC
          go_wp2_with (first | (at_builtin; refine Lib.wpList_append_run _ rfl _ _ _ _ rfl _ _ rfl rfl _ _ (hr3 _) ?_))
          go_roundw
          case rel => exact ⟨i + 1, by go_num, by omega, HO3, HB3⟩
          case measure => simp only [intOf]; omega
        · have HS2 : Hid (Rt.wkTo up f k (i + 1) = Rt.wkTo up f k i) := hide (by rw [HS.out, if_neg he])
          have HO2 : Hid (wr.ownsRow w.heap.size 3 1 u5 (Rt.wkTo up f k (i + 1)).length (ints (cst (Rt.wkTo up f k (i + 1))))) := hide (by rw [HS2.out]; exact HO.out)
          have hb' : (up.getD i 0 == (k : Int)) = false := by simpa using he
          generalize up.getD i 0 = z at *
          clear HS HS2 HO
          go_wp2_with fail
          go_roundw
          case rel => exact ⟨i + 1, by go_num, by omega, HO2, HB⟩
          case measure => simp only [intOf]; omega
      · have hie : i = n := by omega
        subst hie
        have HO2 : Hid (wr.ownsRow w.heap.size 3 1 u5 (Rt.wk up (f + 1) k).length (ints (cst (Rt.wk up (f + 1) k)))) := hide (by rw [← Rt.wkTo_end up f k i HUL.out]; exact HO.out)
        go_wp2_with fail
        go_ret
        exact ⟨u5, rfl, HB.out, HO2.out⟩
/-- A list that grew where an elder one was, or in new memory. -/
def From (w : World) (vo v : Value) : Prop := ∀ b, v.ownBlock = some b → vo.ownBlock = some b ∨ w.heap.size ≤ b
theorem grow_trans {w wr w2 : World} {vo v : Value} (h : w.grownBy wr vo.ownBlock) (h2 : wr.grownBy w2 v.ownBlock) (hf : From w vo v) : w.grownBy w2 vo.ownBlock := by
  refine ⟨h2.os.trans h.os, h2.tape.trans h.tape, h2.output.trans h.output, Nat.le_trans h.size h2.size, fun b hb hne => ?_⟩
  rw [h2.block b (Nat.lt_of_lt_of_le hb h.size) (fun e => ?_)]
  · exact h.block b hb hne
  · rcases hf b e.symm with h' | h'
    · exact hne h'.symm
    · omega
theorem From.trans {w wr : World} {vo v v2 : Value} (h : From w vo v) (h2 : From wr v v2) (hs : w.heap.size ≤ wr.heap.size) : From w vo v2 := fun b e => by
  rcases h2 b e with h' | h'
  · exact h b h'
  · exact Or.inr (by omega)
theorem arow_grown {w w' : World} {b o : Nat} {q : Option Nat} {xs : List Int} (h : ARow w (some ⟨b, o, none⟩) xs) (hg : w.grownBy w' q) (hq : q ≠ some b) : ARow w' (some ⟨b, o, none⟩) xs := by
  rcases h with h | ⟨b', o', e, hl, hc⟩
  · exact Or.inl h
  · cases e
    exact Or.inr ⟨b, o, rfl, Nat.lt_of_lt_of_le hl hg.size, fun i hi => (World.cell?_of_block (w := w) (hg.block b hl (fun e => hq e.symm))).trans (hc i hi)⟩
/-- One number more, and where the list lies then. -/
theorem push_at {w : World} {base n : Nat} {v : Value} {xs : List Value} {x : Int} (hown : w.ownsRow base 3 1 v n xs) (hn : n ≤ 100000) (hb : base ≤ w.heap.size) :
    ∃ g cap w', (∀ ty, (Builtin.append_ #[36, 36] ty #[v, .slice (some ⟨w.heap.size, 0, none⟩) 1 1]).run Try.prog (w.alloc (.cells #[.int .i64 x] 3)) = .ok (.slice (some ⟨g, 0, none⟩) (n + 1) cap) w') ∧ w'.ownsRow base 3 1 (.slice (some ⟨g, 0, none⟩) (n + 1) cap) (n + 1) (xs ++ [.int .i64 x]) ∧ w.grownBy w' v.ownBlock ∧ (v.ownBlock = some g ∨ w.heap.size ≤ g) := by
  obtain ⟨i0, hi, hz0, hz1, hz2⟩ := infoI
  obtain ⟨g, cap, w', h1, h2, h3, h4, _⟩ := run_append_lies (P := Try.prog) (w := w.alloc (.cells #[.int .i64 x] 3)) 36 0 base 3 i0 _ 1 8 Try.underlying36 hi hz0 hz1 hz2 rfl (by decide) v n xs (hown.alloc _) ⟨w.heap.size, 0, none⟩ 1 1 [.int .i64 x] rfl (fun j u hj => by
      rcases vrow_new w (.int .i64 x) 3 with h | ⟨b, off, e, _, hc⟩
      · cases h
      · cases e; rw [add_plain']; exact hc j u hj) (fun u hu => by simp at hu; subst hu; rfl) (by omega) (by unfold maxLen; omega) (by omega) (by simp; omega) _ rfl
  refine ⟨g, cap, w', fun _ => h1, h2, ?_, ?_⟩
  · have hg := World.grownBy_alloc w (.cells #[.int .i64 x] 3) v.ownBlock
    exact ⟨h3.os.trans hg.os, h3.tape.trans hg.tape, h3.output.trans hg.output, Nat.le_trans hg.size h3.size, fun b hb hne => (h3.block b (Nat.lt_of_lt_of_le hb hg.size) hne).trans (hg.block b hb hne)⟩
  · rcases h4 with h | h
    · exact Or.inl h
    · right; simp at h; omega
end Go.Proofs.Ytkiadodoehcbmaa
