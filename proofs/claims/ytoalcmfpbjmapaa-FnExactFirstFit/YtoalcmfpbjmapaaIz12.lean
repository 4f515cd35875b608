/-
  Lists of lists that were answered: compared, marked and held by the law.
-/
import Derived.Test.YtoalcmfpbjmapaaIy12
namespace Go.Proofs.Ytoalcmfpbjmapaa
open Go.RowKit

/-- Lists of ints in blocks from lo on, below hi. -/
def LLh (W : World) (lo hi : Nat) (v : Value) (us : List Value) (R : List (List Int)) : Prop :=
  LL W lo 22 3 1 ints v us R ∧ hi ≤ W.heap.size ∧ (∀ g, v.ownBlock = some g → g < hi) ∧ ∀ i g, i < R.length → (us.getD i nilS).ownBlock = some g → g < hi
theorem LL.top {W : World} {lo : Nat} {v : Value} {us : List Value} {R : List (List Int)} (h : LL W lo 22 3 1 ints v us R) : LLh W lo W.heap.size v us R := ⟨h, Nat.le_refl _, fun g e => (h.1.lt g e).2, fun i g hi e => ((h.2.1 i hi).lt g e).2⟩
theorem LLh.keep {W W' : World} {lo hi : Nat} {v : Value} {us : List Value} {R : List (List Int)} (h : LLh W lo hi v us R) (hs : W.heap.size ≤ W'.heap.size) (hb : ∀ g, lo ≤ g → g < hi → W'.heap[g]? = W.heap[g]?) : LLh W' lo hi v us R := by
  refine ⟨h.1.keep2 fun g hl hc => ?_, Nat.le_trans h.2.1 hs, h.2.2⟩
  rcases hc with hc | ⟨i, hi, hc⟩
  · exact hb g (h.1.1.lt g hc).1 (h.2.2.1 g hc)
  · exact hb g ((h.1.2.1 i hi).lt g hc).1 (h.2.2.2 i g hi hc)
theorem LLh.below {W W' : World} {lo hi : Nat} {v : Value} {us : List Value} {R : List (List Int)} (h : LLh W lo hi v us R) (hb : Below W.heap.size W W') : LLh W' lo hi v us R := h.keep hb.size fun g _ hg => hb.block g (by have := h.2.1; omega)
theorem LLh.rng {W W' : World} {lo hi a b : Nat} {v : Value} {us : List Value} {R : List (List Int)} (h : LLh W lo hi v us R) (hr : Rng a b W W') (hd : hi ≤ a ∨ b ≤ lo) : LLh W' lo hi v us R := h.keep hr.2.2.2.1 fun g h1 h2 => hr.2.2.2.2 g (by have := h.2.1; omega) (by omega)
def totTo (R : List (List Int)) : Nat → Nat
  | 0 => 0
  | i + 1 => totTo R i + (R.getD i []).length
theorem totTo_bd {R : List (List Int)} (h : ∀ i, i < R.length → (R.getD i []).length ≤ 1000) : ∀ i, i ≤ R.length → totTo R i ≤ 1000 * i
  | 0, _ => Nat.le_refl _
  | i + 1, hi => by
    have := totTo_bd h i (by omega)
    have := h i (by omega)
    simp only [totTo]; omega
/-- Marked: row by row what comes next. -/
def HLL (W : World) (v : Value) (us : List Value) (R : List (List Int)) (k : Int) : Prop :=
  (R = [] ∧ ∃ a c, v = .slice a 0 c) ∨ ∃ G cap, v = .slice (some ⟨G, 0, none⟩) R.length cap ∧ G < W.heap.size ∧ ∀ i, i < R.length → W.cell? ⟨G, i, none⟩ = some (us.getD i nilS) ∧ HeldV W (us.getD i nilS) (R.getD i []).length (k + totTo R i)
theorem HLL.below {W W' : World} {v : Value} {us : List Value} {R : List (List Int)} {k : Int} (h : HLL W v us R k) (hb : Below W.heap.size W W') : HLL W' v us R k := by
  rcases h with h | ⟨G, cap, hv, hG, hc⟩
  · exact Or.inl h
  · exact Or.inr ⟨G, cap, hv, Nat.lt_of_lt_of_le hG hb.size, fun i hi => ⟨(hb.cell (p := ⟨G, i, none⟩) hG).trans (hc i hi).1, (hc i hi).2.below hb⟩⟩
theorem LL.some {W : World} {lo : Nat} {v : Value} {us : List Value} {R : List (List Int)} (h : LL W lo 22 3 1 ints v us R) (hn : 0 < R.length) : ∃ G cap, v = .slice (some ⟨G, 0, none⟩) R.length cap := by
  obtain ⟨G, cap, e, _, _⟩ := h.1.form (by omega)
  exact ⟨G, cap, e⟩
theorem LL.none {W : World} {lo : Nat} {v : Value} {us : List Value} {R : List (List Int)} (h : LL W lo 22 3 1 ints v us R) (hn : R.length = 0) : ∃ a c, v = .slice a 0 c := by
  obtain ⟨a, c, e⟩ := h.form
  rw [hn] at e
  exact ⟨a, c, e⟩
set_option maxHeartbeats 400000 in
theorem eqLL_zero (a b : Option Addr) (c d : Nat) (w : World) :
    Calls Try.prog 15 #[.slice a 0 c, .slice b 0 d] w fun e w' => e = .returned (.bool true) ∧ w' = w := by
  go_enter Try.func15, Try.ntmps15
  go_wp2_with fail
  go_loop [5] (fun s => s = .int .i64 0) (fun _ => 0)
  case atStart => rfl
  case round =>
    subst hrel
    go_wp2_with fail
    go_ret
    exact ⟨rfl, rfl⟩
theorem eq_ll {W : World} {lo lo' : Nat} {v v' : Value} {us us' : List Value} {R : List (List Int)} (hn : R.length ≤ 1000) (hr : ∀ i, i < R.length → (R.getD i []).length ≤ 1000) (h : LL W lo 22 3 1 ints v us R) (h' : LL W lo' 22 3 1 ints v' us' R) :
    Calls Try.prog 15 #[v, v'] W fun e w' => e = .returned (.bool true) ∧ Below W.heap.size W w' := by
  by_cases h0 : R.length = 0
  · obtain ⟨a, c, rfl⟩ := h.none h0
    obtain ⟨b, d, rfl⟩ := h'.none h0
    exact (eqLL_zero a b c d W).mono fun e w' ⟨h1, h2⟩ => ⟨h1, h2 ▸ Below.refl _ _⟩
  · obtain ⟨G, c, rfl⟩ := h.some (by omega)
    obtain ⟨G', d, rfl⟩ := h'.some (by omega)
    exact eqC_b rfl (by omega) (fun i hi => by have := hr i hi; omega) h.crow h'.crow
set_option maxHeartbeats 400000 in
theorem markLL_zero (a : Option Addr) (c : Nat) (k : Int) (w : World) :
    Calls Try.prog 17 #[.slice a 0 c, .int .i64 k] w fun e w' => e = .returned (.int .i64 k) ∧ w' = w := by
  go_enter Try.func17, Try.ntmps17
  go_wp2_with fail
  go_loop [1, 5] (fun s t => s = .int .i64 k ∧ t = .int .i64 0) (fun _ _ => 0)
  case atStart => exact ⟨rfl, rfl⟩
  case round =>
    obtain ⟨rfl, rfl⟩ := hrel
    go_wp2_with fail
    go_ret
    exact ⟨rfl, rfl⟩
/-- What is marked up to row i. -/
def MS12 (W : World) (lo hi G _cap : Nat) (us : List Value) (R : List (List Int)) (k : Int) (i : Nat) (wr : World) : Prop :=
  (∀ t, t < i → HeldV wr (us.getD t nilS) (R.getD t []).length (k + totTo R t)) ∧ (∀ t, i ≤ t → t < R.length → wr.ownsRow lo 3 1 (us.getD t nilS) (R.getD t []).length (ints (R.getD t []))) ∧ (∀ t, t < R.length → wr.cell? ⟨G, t, none⟩ = some (us.getD t nilS)) ∧ Rng lo hi W wr
theorem ms_step {W wr w1 : World} {lo hi G cap : Nat} {us : List Value} {R : List (List Int)} {k : Int} {i : Nat} (h : LLh W lo hi (.slice (some ⟨G, 0, none⟩) R.length cap) us R) (hi' : i < R.length) (hm : MS12 W lo hi G cap us R k i wr) (hh : HeldV w1 (us.getD i nilS) (R.getD i []).length (k + totTo R i)) (hg : wr.grownBy w1 (us.getD i nilS).ownBlock) : MS12 W lo hi G cap us R k (i + 1) w1 := by
  obtain ⟨m1, m2, m3, m4⟩ := hm
  have hGl : G < W.heap.size := (h.1.1.lt G rfl).2
  have z := m4.2.2.2.1
  refine ⟨fun t ht => ?_, fun t h1 h2 => own_keep2 (m2 t (by omega) h2) fun g hv hl => hg.block g hl (fun e => h.1.2.2.2 i t g hi' h2 (by omega) e.symm hv), fun t ht => ?_, ?_⟩
  · by_cases e : t = i
    · subst e; exact hh
    · refine (m1 t (by omega)).keep hg.size fun g hv => ?_
      have hl := ((h.1.2.1 t (by omega)).lt g hv).2
      exact hg.block g (by omega) (fun e' => h.1.2.2.2 i t g hi' (by omega) (Ne.symm e) e'.symm hv)
  · rw [World.cell?_of_block (w := wr) (a := ⟨G, t, none⟩) (hg.block G (by omega) (fun e => h.1.2.2.1 i G hi' e.symm rfl))]
    exact m3 t ht
  · refine ⟨hg.os.trans m4.1, hg.tape.trans m4.2.1, hg.output.trans m4.2.2.1, Nat.le_trans z hg.size, fun b hb hc => ?_⟩
    refine (hg.block b (by omega) (fun e => ?_)).trans (m4.2.2.2.2 b hb hc)
    have h1 := ((h.1.2.1 i hi').lt b e.symm).1
    have h2 := h.2.2.2 i b hi' e.symm
    omega
set_option maxHeartbeats 2000000 in
theorem mark_ll {W : World} {lo hi : Nat} {v : Value} {us : List Value} {R : List (List Int)} {k : Int} (hn : R.length ≤ 1000) (hr : ∀ i, i < R.length → (R.getD i []).length ≤ 1000) (k0 : 0 ≤ k) (k1 : k ≤ 1000) (h : LLh W lo hi v us R) :
    Calls Try.prog 17 #[v, .int .i64 k] W fun e w' => e = .returned (.int .i64 (k + totTo R R.length)) ∧ HLL w' v us R k ∧ Rng lo hi W w' := by
  by_cases h0 : R.length = 0
  · obtain ⟨a, c, rfl⟩ := h.1.none h0
    have hR : R = [] := List.length_eq_zero_iff.1 h0
    refine (markLL_zero a c k W).mono fun e w' ⟨h1, h2⟩ => ⟨by rw [h1, h0]; simp [totTo], Or.inl ⟨hR, a, c, rfl⟩, h2 ▸ Rng.refl _ _ _⟩
  · obtain ⟨G, cap, rfl⟩ := h.1.some (by omega)
    have HH := hide h
    have HR := hide hr
    have HTB := hide (totTo_bd hr)
    have HST : Hid (∀ i, totTo R (i + 1) = totTo R i + (R.getD i []).length) := hide fun i => rfl
    have HMS : Hid (MS12 W lo hi G cap us R k 0 W) := hide ⟨fun t ht => absurd ht (Nat.not_lt_zero _), fun t _ h2 => h.1.2.1 t h2, fun t ht => h.1.cell ht, Rng.refl _ _ _⟩
    have hGl : Hid (G < W.heap.size) := hide (h.1.1.lt G rfl).2
    obtain ⟨m, hm⟩ : ∃ m, R.length = m := ⟨_, rfl⟩
    have HM := hide hm
    rw [hm]
    rw [hm] at hn h0
    clear h hr hm
    go_enter Try.func17, Try.ntmps17
    go_wp2_with fail
    go_loopw [1, 5] (fun s t wr => ∃ (i : Nat) (q : Int), s = .int .i64 q ∧ t = .int .i64 i ∧ i ≤ m ∧ Hid (q = k + (totTo R i : Int)) ∧ Hid (MS12 W lo hi G cap us R k i wr)) (fun _ t _ => m - (intOf t).toNat)
    case atStart => exact ⟨0, k, rfl, rfl, Nat.zero_le _, hide (by simp [totTo]), HMS⟩
    case round =>
      obtain ⟨i, q, rfl, rfl, hi', HQ, HS⟩ := hrel
      have htb := HTB.out i (by rw [HM.out]; exact hi')
      have hq0 := HQ.out
      by_cases hlt : i < m
      · have hil : i < R.length := by rw [HM.out]; exact hlt
        have c0 := HS.out.2.2.1 i hil
        have own := HS.out.2.1 i (Nat.le_refl _) hil
        have hrl := HR.out i hil
        obtain ⟨av, cv, ev⟩ := own_form2 own
        have q0 : 0 ≤ q := by omega
        have q1 : q ≤ 1000000000 := by omega
        have HMK := hide (markV_any (k := q) rfl (by omega) q0 q1 own)
        have HNX := hide fun w1 (h1 : HeldV w1 (us.getD i nilS) (R.getD i []).length (k + totTo R i)) h2 => ms_step HH.out hil HS.out h1 h2
        rw [← hq0] at HNX
        have hst := HST.out i
        rw [ev] at c0 HMK
        rw [ev] at HNX
        have HQ' : Hid (q + ((R.getD i []).length : Int) = k + (totTo R (i + 1) : Int)) := hide (by omega)
        have j0 : (0 : Int) ≤ (i : Int) := by omega
        have j1 : (i : Int) < (m : Int) := by omega
        generalize (R.getD i []).length = len at *
        clear own ev hq0 htb hst
        go_wp2_with fail
        refine HMK.out.mono ?_
        rintro e w1 ⟨rfl, h1, h2⟩
        have HS' := hide (HNX.out w1 h1 h2)
        clear h1 h2 HNX HMK
        go_wp2_with fail
        go_roundw
        case rel => exact ⟨i + 1, q + len, rfl, by go_num, by omega, HQ', HS'⟩
        case measure => simp only [intOf]; omega
      · have hie : i = m := by omega
        subst hie
        clear htb hq0
        go_wp2_with fail
        go_ret
        obtain ⟨m1, m2, m3, m4⟩ := HS.out
        exact ⟨ret_int HQ.out, Or.inr ⟨G, cap, by rw [HM.out], Nat.lt_of_lt_of_le hGl.out m4.2.2.2.1, fun t ht => ⟨m3 t ht, m1 t (by rw [HM.out] at ht; exact ht)⟩⟩, m4⟩
set_option maxHeartbeats 400000 in
theorem heldLL_zero (a : Option Addr) (c : Nat) (k : Int) (w : World) :
    Calls Try.prog 18 #[.slice a 0 c, .int .i64 k] w fun e w' => e = .returned (.int .i64 k) ∧ w' = w := by
  go_enter Try.func18, Try.ntmps18
  go_wp2_with fail
  go_loop [1, 4, 5] (fun s _ t => s = .int .i64 k ∧ t = .int .i64 0) (fun _ _ _ => 0)
  case atStart => exact ⟨rfl, rfl⟩
  case round =>
    obtain ⟨rfl, rfl⟩ := hrel
    go_wp2_with fail
    go_ret
    exact ⟨rfl, rfl⟩
set_option maxHeartbeats 2000000 in
theorem held_ll {W : World} {v : Value} {us : List Value} {R : List (List Int)} {k : Int} (hn : R.length ≤ 1000) (hr : ∀ i, i < R.length → (R.getD i []).length ≤ 1000) (k0 : 0 ≤ k) (k1 : k ≤ 1000) (h : HLL W v us R k) :
    Calls Try.prog 18 #[v, .int .i64 k] W fun e w' => e = .returned (.int .i64 (k + totTo R R.length)) ∧ w' = W := by
  rcases h with ⟨rfl, a, c, rfl⟩ | ⟨G, cap, rfl, hG, hc⟩
  · exact (heldLL_zero a c k W).mono fun e w' ⟨h1, h2⟩ => ⟨by rw [h1]; simp [totTo], h2⟩
  · have HC := hide hc
    have HR := hide hr
    have HTB := hide (totTo_bd hr)
    have HST : Hid (∀ i, totTo R (i + 1) = totTo R i + (R.getD i []).length) := hide fun i => rfl
    obtain ⟨m, hm⟩ : ∃ m, R.length = m := ⟨_, rfl⟩
    have HM := hide hm
    rw [hm]
    rw [hm] at hn
    clear hc hr hm
    go_enter Try.func18, Try.ntmps18
    go_wp2_with fail
    go_loop [1, 4, 5] (fun s _ t => ∃ (i : Nat) (q : Int), s = .int .i64 q ∧ t = .int .i64 i ∧ i ≤ m ∧ Hid (q = k + (totTo R i : Int))) (fun _ _ t => m - (intOf t).toNat)
    case atStart => exact ⟨0, k, rfl, rfl, Nat.zero_le _, hide (by simp [totTo])⟩
    case round =>
      obtain ⟨i, q, rfl, rfl, hi', HQ⟩ := hrel
      have htb := HTB.out i (by rw [HM.out]; exact hi')
      have hq0 := HQ.out
      by_cases hlt : i < m
      · have hil : i < R.length := by rw [HM.out]; exact hlt
        obtain ⟨c0, hh⟩ := HC.out i hil
        have hrl := HR.out i hil
        rw [← hq0] at hh
        have q0 : 0 ≤ q := by omega
        have q1 : q ≤ 1000000000 := by omega
        have HV := hide (heldV_any (by omega) q0 q1 hh)
        obtain ⟨av, cv, ev⟩ : ∃ a c, us.getD i nilS = .slice a (R.getD i []).length c := by
          rcases hh with ⟨e, e2⟩ | ⟨g, cp, e, _⟩
          · exact ⟨none, 0, by rw [e, e2]⟩
          · exact ⟨_, _, e⟩
        rw [ev] at c0 HV
        have hst := HST.out i
        have HQ' : Hid (q + ((R.getD i []).length : Int) = k + (totTo R (i + 1) : Int)) := hide (by omega)
        have hqn : ¬ q + ((R.getD i []).length : Int) < 0 := by omega
        have j0 : (0 : Int) ≤ (i : Int) := by omega
        have j1 : (i : Int) < (m : Int) := by omega
        generalize (R.getD i []).length = len at *
        clear hh ev hq0 htb hst
        go_wp2_with fail
        refine HV.out.mono ?_
        rintro e w1 ⟨rfl, hw⟩
        obtain rfl : W = w1 := hw.symm
        go_wp2_with fail
        go_round
        case rel => exact ⟨i + 1, q + len, rfl, by go_num, by omega, HQ'⟩
        case measure => simp only [intOf]; omega
      · have hie : i = m := by omega
        subst hie
        clear htb hq0
        go_wp2_with fail
        go_ret
        exact ⟨ret_int HQ.out, rfl⟩
end Go.Proofs.Ytoalcmfpbjmapaa
