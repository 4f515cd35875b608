/-
  What BestChoice of the program answers.
-/
import Derived.Test.YtdlpbemjbmgbeaaCm
import Derived.Deep.RegionHeld3
import Derived.BigQuiet
namespace Go.Proofs.Ytdlpbemjbmgbeaa
open Go.RowKit

def bcI (L : List (List Int)) (p : Int) : Int := if chB L p then (Of.tab L p.toNat).getD p.toNat 0 else 0
def bcL (L : List (List Int)) (p : Int) : List Int := if chB L p then Of.choice L p.toNat else []
theorem bcL_no {L : List (List Int)} {p : Int} (h : chB L p = false) : bcL L p = [] := by simp [bcL, h]
theorem bcL_yes {L : List (List Int)} {P : Nat} (h : chB L (P : Int) = true) : bcL L (P : Int) = Of.choice L P := by simp [bcL, h]
theorem bcI_no {L : List (List Int)} {p : Int} (h : chB L p = false) : bcI L p = 0 := by simp [bcI, h]
theorem bcI_yes {L : List (List Int)} {P : Nat} (h : chB L (P : Int) = true) : bcI L (P : Int) = (Of.tab L P).getD P 0 := by simp [bcI, h]
theorem bcL_len (L : List (List Int)) (p : Int) : (bcL L p).length ≤ 41 := by
  cases h : chB L p
  · rw [bcL_no h]; simp
  · have h1 := Of.offersB_len (chB_yes h).1
    unfold bcL
    rw [h, if_pos rfl, Of.choice_len]
    omega
theorem choice_of {L : List (List Int)} {P n : Nat} {cs : List Int} (hn : L.length = n) (hc : cs.length = n) (h : ∀ t, 0 ≤ t → t < n → cs.getD t 0 = (Of.cn L P t : Int)) : cs = Of.choice L P := by
  apply List.ext_getElem
  · rw [Of.choice_len, hc, hn]
  · intro i h1 h2
    have := h i (Nat.zero_le _) (by omega)
    rw [← Of.choice_at L P (by omega), Pf.getD_lt _ _ h1, Pf.getD_lt _ _ h2] at this
    exact this

set_option maxRecDepth 100000 in
set_option maxHeartbeats 1000000 in
theorem bc_no {a : Option Addr} {n c : Nat} {L : List (List Int)} {p : Int} {w : World} (hn : L.length = n) (h : ORow w a L) (hg : chB L p = false) :
    Calls Try.prog 6 #[.slice a n c, .int .i64 p] w fun e w' => e = .returned (.tuple #[.slice none 0 0, .int .i64 0, .bool false]) ∧ Below w.heap.size w w' := by
  have HC := hide (ach_eq (c := c) hn h hg)
  clear h hn hg
  go_enter Try.func6, Try.ntmps6
  go_wp2_with fail
  refine HC.out.mono ?_
  rintro e w1 ⟨rfl, hb1⟩
  go_wp2_with fail
  refine bodyPost_ret (v := .tuple #[.slice none 0 0, .int .i64 0, .bool false]) (by simp [results, Try.results6, go_sem]) rfl ⟨rfl, hb1⟩
set_option maxRecDepth 100000 in
set_option maxHeartbeats 8000000 in
theorem bc_yes {a : Option Addr} {n c P M : Nat} {L : List (List Int)} {w : World} (hn : L.length = n) (hM : P + 1 = M) (hM' : M ≤ 1000) (h : ORow w a L) (hg : chB L (P : Int) = true) :
    Calls Try.prog 6 #[.slice a n c, .int .i64 P] w fun e w' => ∃ K, e = .returned (.tuple #[.slice (some ⟨K, 0, none⟩) n n, .int .i64 ((Of.tab L P).getD P 0), .bool true]) ∧ w'.ownsRow w.heap.size 3 1 (.slice (some ⟨K, 0, none⟩) n n) n (ints (Of.choice L P)) ∧ Below w.heap.size w w' := by
  have HC := hide (ach_eq (c := c) hn h hg)
  have H := hide h
  have HN := hide hn
  have HG := hide (chB_yes hg).1
  have h12 := Of.offersB_len HG.out
  rw [hn] at h12
  have hmk := make_one hM hM'
  have hmi := makeI_run n (by omega)
  have HM := hide hM
  have hP : P ≤ 1000 := by omega
  have HTL : Hid (∀ k, (Of.tab (L.take k) P).length = M) := hide fun k => by rw [Of.tab_len, hM]
  clear h hn hg hM
  go_enter Try.func6, Try.ntmps6
  go_wp2_with fail
  refine HC.out.mono ?_
  rintro e w1 ⟨rfl, hb1⟩
  clear HC
  have HF := hide (fr_any (d := c) (c := M) (R := w1.heap.size) (base := w1.heap.size) (w := w1.alloc (.cells (madeCells #[.int .i64 0] M) 3)) HN.out HM.out hM' HG.out ((H.out.below hb1).x (o_below_new _ _) (Nat.le_refl _)) (made_own w1 M (by omega)))
  go_wp2_with fail
  refine HF.out.mono ?_
  rintro e w2 ⟨G, rfl, hg2, own2, T2⟩
  have HB2 : Hid (Below w.heap.size w w2) := hide ((hb1.trans ((o_below_new w1 (.cells (madeCells #[.int .i64 0] M) 3)).mono hb1.size)).trans (grown_below' hg2 hb1.size (by have := hb1.size; simp; omega)))
  have HO2 := hide own2
  have HT2 := hide T2
  have HL2 := hide (H.out.below HB2.out)
  have hRl := (own2.lt _ rfl).2
  generalize w1.heap.size = R at *
  clear hmk own2 hg2 HF T2 hb1
  have HK0 : Hid ((w2.alloc (.cells (madeCells #[.int .i64 0] n) 3)).ownsRow w2.heap.size 3 1 (.slice (some ⟨w2.heap.size, 0, none⟩) n n) n (ints (List.replicate n 0))) := hide (made_own w2 n (by omega))
  have HB0 : Hid (Below w2.heap.size w2 (w2.alloc (.cells (madeCells #[.int .i64 0] n) 3))) := hide (o_below_new _ _)
  go_wp2_with fail
  go_loopw [10, 11, 12] (fun s10 s11 _ wr => ∃ (k l : Nat) (z : Int) (cs : List Int), s10 = .int .i64 l ∧ s11 = .int .i64 z ∧ Hid (z = (k : Int) - 1) ∧ k ≤ n ∧ l ≤ P ∧ Hid (l = Of.lf L P (n - k)) ∧ Hid (cs.length = n) ∧ Hid (∀ t, k ≤ t → t < n → cs.getD t 0 = (Of.cn L P t : Int)) ∧ Hid (wr.ownsRow w2.heap.size 3 1 (.slice (some ⟨w2.heap.size, 0, none⟩) n n) n (ints cs)) ∧ Hid (Below w2.heap.size w2 wr)) (fun _ s _ _ => (intOf s + 1).toNat)
  case atStart => exact ⟨n, P, (n : Int) - 1, List.replicate n 0, rfl, rfl, hide rfl, Nat.le_refl _, Nat.le_refl _, hide (by rw [Nat.sub_self]; rfl), hide (by simp), hide fun t h1 h2 => by omega, HK0, HB0⟩
  case round =>
    obtain ⟨k, l, z, cs, rfl, rfl, HZ, hk, hl, HLF, HCL, HCN, HK, HB⟩ := hrel
    clear HK0 HB0
    cases k with
    | succ i =>
      obtain rfl : z = (i : Int) := by have := HZ.out; omega
      obtain ⟨b, off, ai, ci, rfl, hb, r1, R1⟩ := (HL2.out.below HB.out).at (i := i) (by rw [HN.out]; omega)
      obtain ⟨b', off', a2, c2, e2, hb', r2, R2⟩ := (HT2.out.below HB.out).at (i := i) (by rw [tabs_len, HN.out]; omega)
      cases e2
      rw [tabs_at L P (by rw [HN.out]; omega)] at r2 R2
      rw [HTL.out i] at r2
      rw [Nat.zero_add] at r2
      have i0' : (0 : Int) ≤ (i : Int) := by omega
      have i1' : (i : Int) < (n : Int) := by omega
      have HO := hide (Of.offersB_at HG.out i)
      have hcall := hide fun (w' : World) (hb : Below wr.heap.size wr w') => sw_any (c := ci) (d := c2) (p := l) rfl (HTL.out i) HO.out (Of.tab_bd12 HG.out P i) (show l < M by have := HM.out; omega) hM' (R1.below hb) (R2.below hb)
      have e3 : n - (i + 1) = n - 1 - i := by omega
      have e4 := Of.lf_cn L P (k := i) (by rw [HN.out]; omega)
      rw [HN.out] at e4
      have HCE : Hid (Of.cnt (L.getD i []) (Of.tab (L.take i) P) l = Of.cn L P i) := hide (by unfold Of.cn; rw [HN.out, ← e3, ← HLF.out])
      have HLE : Hid (Of.lf L P (n - i) = l - Of.cn L P i ∧ Of.cn L P i ≤ l) := hide (by rw [← e3, ← HLF.out] at e4; exact e4)
      have HSL := hide (Of.sums_len (L.getD i []) (Of.tab (L.take i) P) l)
      have HMX := hide (Of.max_sums (L.getD i []) (Of.tab (L.take i) P) l)
      have HIX := hide (Of.idx_sums (L.getD i []) (Of.tab (L.take i) P) l)
      rw [HCE.out] at HIX
      generalize (L.getD i []).length = m at *
      generalize Of.sums (L.getD i []) (Of.tab (L.take i) P) l = ss at *
      generalize Of.best (L.getD i []) (Of.tab (L.take i) P) l = bb at *
      generalize hcn : Of.cn L P i = cv at *
      have HCV := hide hcn
      clear R1 R2 e3 e4 hcn HCE
      go_wp2_with fail
      go_region_held3 (fun w' => w'.cell? ⟨b, off + i, none⟩ = some (.slice ai m ci) ∧ w'.cell? ⟨G, i, none⟩ = some (.slice a2 M c2) ∧ Below wr.heap.size wr w' ∧ wr.heap.size ≤ w'.heap.size)
        (first | exact ⟨r1, r2, (Below.refl _ _).drew, Nat.le_refl _⟩ | assumption | exact two_call hb hb' ‹_› (by assumption) | fail)
        (first | (go_at_call 29; obtain ⟨_, _, hbS, _⟩ := ‹_ ∧ _ ∧ _ ∧ _›; refine (hcall.out _ hbS).mono ?_; rintro e w3 ⟨g3, cap3, rfl, own3, hb3⟩) | fail)
      obtain ⟨_, _, hbE, _⟩ := ‹_ ∧ _ ∧ _ ∧ _›
      have R3 := hide (arow_owns HSL.out.symm own3)
      have HK3 := hide (o_own HK.out hbE)
      have HB3 := hide (HB.out.trans (hbE.mono HB.out.size))
      have c0 : w3.cell? ⟨w2.heap.size, i, none⟩ = some (.int .i64 (cs.getD i 0)) := by
        rw [HK3.out.cellAt i (by omega), ints_get cs i (by rw [HCL.out]; omega)]
      have f0 := HK3.out.frozenAt i
      obtain ⟨st1, _⟩ := HK3.out.stored i (.int .i64 (cv : Int))
      rw [ints_set] at st1
      have HST := hide st1
      have HCN2 : Hid (∀ t, i ≤ t → t < n → (cs.set i (cv : Int)).getD t 0 = (Of.cn L P t : Int)) := hide fun t h1 h2 => by
        by_cases e : t = i
        · subst e
          have := HCL.out
          simp [show t < cs.length by omega, HCV.out]
        · have := HCN.out t (by omega) h2
          rw [← this, List.getD_eq_getElem?_getD, List.getD_eq_getElem?_getD, List.getElem?_set_ne (by omega)]
      obtain ⟨hle1, hle2⟩ := HLE.out
      have HLE1 := hide hle1
      have hm0 : 0 < min m l + 1 := by omega
      have hm1 : min m l + 1 ≤ 1000000 := by omega
      generalize min m l + 1 = S at *
      generalize cs.getD i 0 = x0 at *
      clear own3 hbS hbE st1 HCN hle1 hcall r1 r2
      go_wp2_with fail
      refine (mx_any HSL.out hm0 hm1 R3.out).mono ?_
      rintro e w4 ⟨rfl, hw⟩
      obtain rfl : w3 = w4 := hw.symm
      rw [HMX.out]
      go_wp2_with fail
      refine (ix_any HSL.out hm1 R3.out).mono ?_
      rintro e w4 ⟨rfl, hw⟩
      obtain rfl : w3 = w4 := hw.symm
      rw [HIX.out]
      go_wp2_with fail
      go_roundw
      case rel => exact ⟨i, l - cv, (i : Int) - 1, cs.set i (cv : Int), by go_num, by go_num, hide rfl, by omega, by omega, hide HLE1.out.symm, hide (by rw [List.length_set]; exact HCL.out), HCN2, HST, hide (HB3.out.setCell (Nat.le_refl _) _)⟩
      case measure => simp only [intOf]; omega
    | zero =>
      obtain rfl : z = -1 := by have := HZ.out; omega
      have HE := hide (choice_of HN.out HCL.out HCN.out)
      have c1 : wr.cell? ⟨R, P, none⟩ = some (.int .i64 ((Of.tab L P).getD P 0)) := by
        have h1 := HM.out
        rw [(o_own HO2.out HB.out).cellAt P (by omega), ints_get _ P (by rw [Of.tab_len]; omega)]
      have j0 : (0 : Int) ≤ (P : Int) := by omega
      have j1 : (P : Int) < (M : Int) := by have := HM.out; omega
      have HKE := HK.out
      rw [HE.out] at HKE
      have HKF := hide (owns_low HKE HB2.out.size)
      have HBF := hide (HB2.out.trans (HB.out.mono HB2.out.size))
      generalize hy : (Of.tab L P).getD P 0 = y at *
      have HY := hide hy
      clear HKE hmi hy
      go_wp2_with fail
      go_region
      go_wp2_with fail
      refine bodyPost_ret (v := .tuple #[.slice (some ⟨w2.heap.size, 0, none⟩) n n, .int .i64 y, .bool true]) (by simp [results, Try.results6, go_sem]) rfl ⟨w2.heap.size, by rw [HY.out], HKF.out, ?_⟩
      exact HBF.out.drew
theorem bc_w {a : Option Addr} {n c : Nat} {L : List (List Int)} {p : Int} {w : World} (hn : L.length = n) (h : ORow w a L) :
    Calls Try.prog 6 #[.slice a n c, .int .i64 p] w fun e w' => ∃ v, e = .returned (.tuple #[v, .int .i64 (bcI L p), .bool (chB L p)]) ∧ w'.ownsRow w.heap.size 3 1 v (bcL L p).length (ints (bcL L p)) ∧ Below w.heap.size w w' := by
  cases hg : chB L p
  · refine (bc_no hn h hg).mono ?_
    rintro e w' ⟨rfl, hb⟩
    exact ⟨_, by rw [bcI_no hg], by rw [bcL_no hg]; exact World.ownsRow_nil _ _ _ _, hb⟩
  · obtain ⟨P, rfl⟩ : ∃ P : Nat, p = (P : Int) := ⟨p.toNat, by have := chB_yes hg; omega⟩
    have := chB_yes hg
    refine (bc_yes (M := P + 1) hn rfl (by omega) h hg).mono ?_
    rintro e w' ⟨K, rfl, own, hb⟩
    exact ⟨_, by rw [bcI_yes hg], by rw [bcL_yes hg, Of.choice_len, hn]; exact own, hb⟩
end Go.Proofs.Ytdlpbemjbmgbeaa
