/-
  An offer's gains by count, the sums with an offer, the greatest of a list and where it lies.
-/
import Derived.Test.YtdlpbemjbmgbeaaCd
import Derived.Deep.AppendLies
namespace Go.Proofs.Ytdlpbemjbmgbeaa
open Go.RowKit

theorem c_new (w : World) (x : Int) {H : Nat} (hH : w.heap.size = H) : ∀ (j : Nat) (u : Value), (ints [x])[j]? = some u → (w.alloc (.cells #[.int .i64 x] 3)).cell? ((⟨H, 0, none⟩ : Addr).add j) = some u := by
  intro j u hj
  subst hH
  match j, hj with
  | 0, hj => simp [ints] at hj; subst hj; simp [Addr.add]

theorem mx_any {g n c : Nat} {xs : List Int} {w : World} (hn : xs.length = n) (h0 : 0 < n) (hl : n ≤ 1000000) (h : ARow w (some ⟨g, 0, none⟩) xs) :
    Calls Try.prog 31 #[.slice (some ⟨g, 0, none⟩) n c] w fun e w' => e = .returned (.int .i64 (Lib.maxOf xs)) ∧ w' = w := by
  have := Try.slices_Max_int g 0 n c xs w h0 (by omega) (by omega) (fun j hj => by
    rcases h with h | ⟨b, off, e, _, hc⟩
    · rw [h] at hj; simp at hj
    · cases e; exact hc j hj)
  rwa [List.take_of_length_le (by omega)] at this
theorem gbc_row {w : World} {a : Option Addr} {n c : Nat} {o : List Int} (hn : o.length = n) (h : ARow w a o) : VVRow (((w.alloc (.cells #[.slice a n c] 36)).alloc (.cells #[.int .i64 0] 3)).alloc (.cells #[.slice (some ⟨w.heap.size + 1, 0, none⟩) 1 1, .slice a n c] 26)) (w.heap.size + 1 + 1) [ints [0], ints o] := by
  intro i hi
  match i, hi with
  | 0, _ =>
    refine ⟨some ⟨w.heap.size + 1, 0, none⟩, 1, by simp [go_sem, ints], Or.inr ⟨_, _, rfl, by simp, fun j u hj => ?_⟩, by simp⟩
    match j, hj with
    | 0, hj =>
      simp [ints] at hj
      subst hj
      simp [go_sem]
  | 1, _ => exact ⟨a, c, by simp [go_sem, ints, hn], (((h.alloc _).alloc _).alloc _).vrow, by simp⟩
set_option maxRecDepth 100000 in
set_option maxHeartbeats 2000000 in
theorem gbc_any {a : Option Addr} {n c N : Nat} {o : List Int} {w : World} (hn : o.length = n) (hN : n + 1 = N) (hl : n ≤ 1000) (h : ARow w a o) :
    Calls Try.prog 35 #[.agg #[.slice a n c]] w fun e w' => ∃ g cap, e = .returned (.slice (some ⟨g, 0, none⟩) N cap) ∧ w'.ownsRow w.heap.size 3 1 (.slice (some ⟨g, 0, none⟩) N cap) N (ints (0 :: o)) ∧ Below w.heap.size w w' := by
  have HV := hide (gbc_row (c := c) hn h)
  have HF : Hid (([ints [0], ints o]).flatten = ints (0 :: o)) := hide (by simp [ints])
  have HL : Hid (([ints [0], ints o]).flatten.length = N) := hide (by simp [ints]; omega)
  have H1 : Hid (∀ i, i < 2 → ∀ u ∈ ([ints [0], ints o]).getD i [], u.oneCell' = true) := hide fun i hi => by
    match i, hi with
    | 0, _ => exact c_ints _
    | 1, _ => exact c_ints _
  have HB : Hid (Below w.heap.size w (((w.alloc (.cells #[.slice a n c] 36)).alloc (.cells #[.int .i64 0] 3)).alloc (.cells #[.slice (some ⟨w.heap.size + 1, 0, none⟩) 1 1, .slice a n c] 26))) := hide ((((Below.refl _ _).alloc (Nat.le_refl _) _).alloc (by simp) _).alloc (by simp; omega) _)
  clear h hn
  go_enter Try.func35, Try.ntmps35
  go_wp2_with fail
  refine (concat_any (m := 2) (N := N) rfl (by omega) HL.out (by omega) H1.out HV.out).mono ?_
  rintro e w1 ⟨v, rfl, own1, hb1⟩
  rw [HF.out] at own1
  obtain ⟨g, cap, rfl, _, _⟩ := own1.form (by omega)
  have HO := hide (owns_low own1 HB.out.size)
  have HB2 := hide (HB.out.trans (hb1.mono HB.out.size))
  clear own1
  go_wp2_with fail
  go_ret
  exact ⟨g, cap, rfl, HO.out, HB2.out⟩
theorem sums_snoc (o r : List Int) {p k : Nat} (h : k ≤ min o.length p) : (Of.sums o r p).take (k + 1) = (Of.sums o r p).take k ++ [Of.gain o k + r.getD (p - k) 0] := by
  have hl := Of.sums_len o r p
  rw [← Of.sums_at o r p h, List.take_add_one, List.getElem?_eq_getElem (by omega), Pf.getD_lt _ _ (show k < (Of.sums o r p).length by omega)]
  rfl

set_option maxRecDepth 100000 in
set_option maxHeartbeats 4000000 in
theorem sw_any {a b : Option Addr} {n c m d p : Nat} {o r : List Int} {w : World} (hn : o.length = n) (hm : r.length = m) (ho : Of.offB o = true) (hr : Of.RowIn r 12000) (hp : p < m) (hm' : m ≤ 1000) (ha : ARow w a o) (hb : ARow w b r) :
    Calls Try.prog 29 #[.agg #[.slice a n c], .slice b m d, .int .i64 p] w fun e w' => ∃ g cap, e = .returned (.slice (some ⟨g, 0, none⟩) (min n p + 1) cap) ∧ w'.ownsRow w.heap.size 3 1 (.slice (some ⟨g, 0, none⟩) (min n p + 1) cap) (min n p + 1) (ints (Of.sums o r p)) ∧ Below w.heap.size w w' := by
  obtain ⟨i0, hi, hz0, hz1, hz2⟩ := infoI
  have hn6 := (Of.offB_yes ho).1
  obtain ⟨N, hN⟩ : ∃ N, n + 1 = N := ⟨_, rfl⟩
  have HA := hide (gbc_any (c := c) hn hN (by omega) (ha.alloc (.cells #[.slice a n c] 36)))
  have HR := hide hb
  have HRM := hide hm
  have HON := hide hn
  have HBD := hide fun k : Nat => Of.gain_bd ho k
  have HRB := hide hr
  have HNN := hide hN
  clear ha hb hm ho hr
  go_enter Try.func29, Try.ntmps29
  go_wp2_with fail
  refine HA.out.mono ?_
  rintro e w1 ⟨g1, cap1, rfl, own1, hb1⟩
  have HO1 := hide own1
  have hsz : (w.alloc (.cells #[.slice a n c] 36)).heap.size = w.heap.size + 1 := by simp
  have HB1 := hide ((o_below_new w (.cells #[.slice a n c] 36)).trans (hb1.mono (by simp)))
  have g1lt := (own1.lt g1 rfl)
  clear own1 hb1 HA
  go_wp2_with fail
  go_loopw [7, 8, 9, 13] (fun s7 _ _ s wr => ∃ (k t : Nat), s = .int .i64 k ∧ k ≤ N ∧ t ≤ k ∧ Hid (t = min k (min n p + 1)) ∧ Hid (wr.ownsRow w1.heap.size 3 1 s7 t (ints ((Of.sums o r p).take k))) ∧ Hid (Below w1.heap.size w1 wr)) (fun _ _ _ s _ => N - (intOf s).toNat)
  case atStart => exact ⟨0, 0, rfl, Nat.zero_le _, by omega, hide (by omega), hide (World.ownsRow_nil _ _ _ _), hide (Below.refl _ _)⟩
  case round =>
    obtain ⟨k, t, rfl, hk, ht, HT, HO, HB⟩ := hrel
    by_cases hlt : k < N
    · have i0' : (0 : Int) ≤ (k : Int) := by omega
      have i1' : (k : Int) < (N : Int) := by omega
      have c1 : wr.cell? ⟨g1, k, none⟩ = some (.int .i64 (Of.gain o k)) := by
        rw [(o_own HO1.out HB.out).cellAt k (by omega), ints_get (0 :: o) k (by simp [HON.out]; omega)]
        rfl
      obtain ⟨x0, x1⟩ := HBD.out k
      by_cases hkp : k ≤ p
      · have hkp' : (k : Int) ≤ (p : Int) := by omega
        have j0 : (0 : Int) ≤ (p : Int) - (k : Int) := by omega
        have j1 : (p : Int) - (k : Int) < (m : Int) := by omega
        obtain ⟨bb, ob, rfl, r1⟩ := (HR.out.below (HB1.out.trans (HB.out.mono HB1.out.size))).at (i := p - k) (by rw [HRM.out]; omega)
        have hrb := HRB.out (p - k)
        have HS := hide (sums_snoc o r (p := p) (k := k) (by rw [HON.out]; omega))
        generalize Of.gain o k = x at *
        generalize r.getD (p - k) 0 = y at *
        obtain ⟨y0, y1⟩ := hrb
        have HT2 : Hid (t + 1 = min (k + 1) (min n p + 1)) := hide (by have := HT.out; omega)
        have hs1 : w1.heap.size ≤ wr.heap.size := HB.out.size
        go_wp2_with (first | (at_builtin; refine wpList_append_own _ rfl _ _ 26 rfl w1.heap.size 3 i0 (.int .i64 0) 1 8 Try.underlying26 hi hz0 hz1 hz2 rfl (by decide) _ _ _ rfl (HO.out.alloc _) ⟨wr.heap.size, 0, none⟩ 1 1 (ints [x + y]) rfl rfl (c_new _ _ rfl) (c_ints _) (by unfold maxLen; omega) (by omega) (by simp; omega) ?_))
        intro v4 w4 own4 hg4 _
        have HO4 : Hid (w4.ownsRow w1.heap.size 3 1 v4 (t + 1) (ints ((Of.sums o r p).take (k + 1)))) := hide (by
          rw [HS.out, ints_snoc]; exact own4)
        have HB4 := hide (HB.out.trans (((o_below_new wr (.cells #[.int .i64 (x + y)] 3)).mono hs1).trans (grown_under' hg4 (HO.out.alloc _) (Nat.le_refl _) (by simp; omega))))
        clear own4 hg4
        go_wp2_with fail
        go_roundw
        case rel => exact ⟨k + 1, t + 1, by go_num, by omega, by omega, HT2, HO4, HB4⟩
        case measure => simp only [intOf]; omega
      · have hkp' : ¬ (k : Int) ≤ (p : Int) := by omega
        have HO4 : Hid (wr.ownsRow w1.heap.size 3 1 _ t (ints ((Of.sums o r p).take (k + 1)))) := hide (by
          have h1 := HO.out
          have hl := Of.sums_len o r p
          rw [List.take_of_length_le (by omega)] at h1 ⊢
          exact h1)
        have HT2 : Hid (t = min (k + 1) (min n p + 1)) := hide (by have := HT.out; omega)
        go_wp2_with fail
        go_roundw
        case rel => exact ⟨k + 1, t, by go_num, by omega, by omega, HT2, HO4, HB⟩
        case measure => simp only [intOf]; omega
    · have hke : k = N := by omega
      have h1 := HO.out
      have hl := Of.sums_len o r p
      have hte : t = min n p + 1 := by have := HT.out; have := HNN.out; omega
      rw [List.take_of_length_le (by rw [hl, HON.out, hke, ← HNN.out]; omega), hte] at h1
      obtain ⟨g, cap, hv, _, _⟩ := h1.form (by omega)
      subst hv
      have HE := hide (owns_low h1 HB1.out.size)
      have HBE := hide (HB1.out.trans (HB.out.mono HB1.out.size))
      clear h1 hke hte hl
      go_wp2_with fail
      go_ret
      exact ⟨g, cap, rfl, HE.out, HBE.out⟩

theorem ix_any {g n c : Nat} {x : Int} {xs : List Int} {w : World} (hn : xs.length = n) (hl : n ≤ 1000000) (h : ARow w (some ⟨g, 0, none⟩) xs) :
    Calls Try.prog 30 #[.slice (some ⟨g, 0, none⟩) n c, .int .i64 x] w fun e w' => e = .returned (.int .i64 (Lib.idxOf xs x)) ∧ w' = w := by
  have := Try.slices_Index_int g 0 n c xs x w (by omega) (by omega) (fun j hj => by
    rcases h with h | ⟨b, off, e, _, hc⟩
    · rw [h] at hj; simp at hj
    · cases e; exact hc j hj)
  rwa [List.take_of_length_le (by omega)] at this
end Go.Proofs.Ytdlpbemjbmgbeaa
