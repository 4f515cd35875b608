/-
  What is come to, as the model finds it: l8Come, l8Those, and CoverOf and LackOf of the model.
-/
import Derived.Test.YtfmdahpldjkifaaJi
import Derived.Deep.LoopGhost
namespace Go.Proofs.Ytfmdahpldjkifaa
open Go.RowKit

namespace Ma
theorem come_setB {F : List (List Bool)} {m : List Int} {A B : List Bool} (h : Come F m A B) {l b : Nat} (hl : l < F.length) (hb : b < bins F) (h1 : A.getD l false = true) (h2 : fit F l b = true) : Come F m A (B.set b true) := by
  obtain ⟨c1, c2, c3, c4⟩ := h
  refine ⟨c1, by simpa using c2, c3, fun b' hb' e => ?_⟩
  rw [get_set B b b' (by omega)] at e
  by_cases e2 : b' = b
  · subst e2; exact ((shut_r F m l hl).2 b' hb).1 (c3 l hl h1) h2
  · rw [if_neg e2] at e; exact c4 b' hb' e
theorem come_setL {F : List (List Bool)} {m : List Int} {A B : List Bool} (h : Come F m A B) {l b : Nat} (hl : l < F.length) (hb : b < bins F) (h1 : B.getD b false = true) (h2 : m.getD l (-1) = (b : Int)) : Come F m (A.set l true) B := by
  obtain ⟨c1, c2, c3, c4⟩ := h
  refine ⟨by simpa using c1, c2, fun l' hl' e => ?_, c4⟩
  rw [get_set A l l' (by omega)] at e
  by_cases e2 : l' = l
  · subst e2; exact ((shut_r F m l' hl).2 b hb).2 (c4 b hb h1) h2
  · rw [if_neg e2] at e; exact c3 l' hl' e
/-- Both rules at one load and one bin. -/
def RuleAt (F : List (List Bool)) (m : List Int) (A B : List Bool) (l b : Nat) : Prop := (A.getD l false = true → fit F l b = true → B.getD b false = true) ∧ (B.getD b false = true → m.getD l (-1) = (b : Int) → A.getD l false = true)
/-- The first k of those without a bin. -/
def unm (m : List Int) (k : Nat) : List Bool := (List.range m.length).map fun i => decide (i < k) && decide (m.getD i (-1) < 0)
theorem unm_len (m : List Int) (k : Nat) : (unm m k).length = m.length := by simp [unm]
theorem unm_zero (m : List Int) : unm m 0 = List.replicate m.length false := by
  apply List.ext_getElem <;> simp [unm]
theorem unm_get (m : List Int) (k : Nat) {i : Nat} (hi : i < m.length) : (unm m k).getD i false = (decide (i < k) && decide (m.getD i (-1) < 0)) := by simp [unm, hi]
theorem unm_step (m : List Int) (k : Nat) : (unm m k).set k (decide (m.getD k (-1) < 0)) = unm m (k + 1) := by
  apply List.ext_getElem
  · simp [unm]
  · intro i h1 h2
    simp only [unm, List.getElem_set, List.getElem_map, List.getElem_range]
    by_cases e : k = i
    · subst e; simp
    · simp [e, show (i < k + 1) = (i < k) by simp; omega]
theorem come_unm {F : List (List Bool)} {m own : List Int} (h : MO F m own) : Come F m (unm m F.length) (List.replicate (bins F) false) ∧ ∀ l, l < F.length → m.getD l (-1) = -1 → (unm m F.length).getD l false = true := by
  refine ⟨⟨by rw [unm_len, h.lm], by simp, fun l hl e => ?_, fun b hb e => ?_⟩, fun l hl e => ?_⟩
  · rw [unm_get m _ (by rw [h.lm]; exact hl)] at e
    have : m.getD l (-1) < 0 := by simpa [hl] using e
    rcases h.mm l hl with e2 | ⟨b, _, e2⟩
    · exact (shut_r F m l hl).1 e2
    · omega
  · rw [List.getD_eq_getElem?_getD, List.getElem?_replicate] at e
    split at e <;> cases e
  · rw [unm_get m _ (by rw [h.lm]; exact hl), e]; simp [hl]
theorem shut_of {F : List (List Bool)} {m : List Int} {A B : List Bool} (h : ∀ l, l < F.length → m.getD l (-1) = -1 → A.getD l false = true) (hr : ∀ l, l < F.length → ∀ b, b < bins F → RuleAt F m A B l b) : Shut F m A B :=
  fun l hl => ⟨h l hl, fun b hb => hr l hl b hb⟩
end Ma
/-- Two lists of yes and no, each in a block of its own behind all that was there. -/
def CS (w0 w : World) (A n : Nat) (la : List Bool) (B M : Nat) (lb : List Bool) : Prop :=
  Below w0.heap.size w0 w ∧ w.ownsRow w0.heap.size 4 1 (.slice (some ⟨A, 0, none⟩) n n) n (bls la) ∧ w.ownsRow w0.heap.size 4 1 (.slice (some ⟨B, 0, none⟩) M M) M (bls lb) ∧ A ≠ B ∧ la.length = n ∧ lb.length = M
theorem CS.setA {w0 w : World} {A n B M : Nat} {la lb : List Bool} (h : CS w0 w A n la B M lb) (i : Nat) (x : Bool) : CS w0 (w.setCell ⟨A, i, none⟩ (.bool x)) A n (la.set i x) B M lb := by
  obtain ⟨h1, h2, h3, h4, h5, h6⟩ := h
  obtain ⟨st1, st2⟩ := h2.stored i (.bool x)
  rw [bls_set] at st1
  exact ⟨h1.setCell (h2.lt A rfl).1 _, st1, h3.kept st2 (Or.inr (by simpa [Value.ownBlock] using Ne.symm h4)), h4, by simpa using h5, h6⟩
theorem CS.setB {w0 w : World} {A n B M : Nat} {la lb : List Bool} (h : CS w0 w A n la B M lb) (i : Nat) (x : Bool) : CS w0 (w.setCell ⟨B, i, none⟩ (.bool x)) A n la B M (lb.set i x) := by
  obtain ⟨h1, h2, h3, h4, h5, h6⟩ := h
  obtain ⟨st1, st2⟩ := h3.stored i (.bool x)
  rw [bls_set] at st1
  exact ⟨h1.setCell (h3.lt B rfl).1 _, h2.kept st2 (Or.inr (by simpa [Value.ownBlock] using h4)), st1, h4, h5, by simpa using h6⟩
theorem CS.getA {w0 w : World} {A n B M : Nat} {la lb : List Bool} (h : CS w0 w A n la B M lb) {i : Nat} (hi : i < n) : w.cell? ⟨A, i, none⟩ = some (.bool (la.getD i false)) ∧ w.frozen? ⟨A, i, none⟩ = false := by
  obtain ⟨h1, h2, h3, h4, h5, h6⟩ := h
  exact ⟨by rw [h2.cellAt i (by omega), bls_get la i (by omega) false], h2.frozenAt i⟩
theorem CS.getB {w0 w : World} {A n B M : Nat} {la lb : List Bool} (h : CS w0 w A n la B M lb) {i : Nat} (hi : i < M) : w.cell? ⟨B, i, none⟩ = some (.bool (lb.getD i false)) ∧ w.frozen? ⟨B, i, none⟩ = false := by
  obtain ⟨h1, h2, h3, h4, h5, h6⟩ := h
  exact ⟨by rw [h3.cellAt i (by omega), bls_get lb i (by omega) false], h3.frozenAt i⟩
/-- What holds of the two lists within a sweep that began with la0, lb0: nothing has turned, or less is left. -/
def Swp (F : List (List Bool)) (m : List Int) (la0 lb0 la lb : List Bool) (g : Bool) : Prop :=
  Ma.Come F m la lb ∧ (∀ l, l < F.length → m.getD l (-1) = -1 → la.getD l false = true) ∧ ((g = false ∧ la = la0 ∧ lb = lb0) ∨ (g = true ∧ Ma.left la + Ma.left lb < Ma.left la0 + Ma.left lb0))
theorem Swp.setB {F : List (List Bool)} {m : List Int} {la0 lb0 la lb : List Bool} {g : Bool} (h : Swp F m la0 lb0 la lb g) {l b : Nat} (hl : l < F.length) (hb : b < Ma.bins F) (h1 : la.getD l false = true) (h2 : Ma.fit F l b = true) (h3 : lb.getD b false = false) : Swp F m la0 lb0 la (lb.set b true) true := by
  obtain ⟨c, u, hh⟩ := h
  have hls := Ma.left_set (t := lb) (b := b) (by rw [c.2.1]; exact hb) h3
  refine ⟨Ma.come_setB c hl hb h1 h2, u, Or.inr ⟨rfl, ?_⟩⟩
  rcases hh with ⟨_, rfl, rfl⟩ | ⟨_, hh⟩ <;> omega
theorem Swp.setA {F : List (List Bool)} {m : List Int} {la0 lb0 la lb : List Bool} {g : Bool} (h : Swp F m la0 lb0 la lb g) {l b : Nat} (hl : l < F.length) (hb : b < Ma.bins F) (h1 : lb.getD b false = true) (h2 : m.getD l (-1) = (b : Int)) (h3 : la.getD l false = false) : Swp F m la0 lb0 (la.set l true) lb true := by
  obtain ⟨c, u, hh⟩ := h
  have hls := Ma.left_set (t := la) (b := l) (by rw [c.1]; exact hl) h3
  refine ⟨Ma.come_setL c hl hb h1 h2, fun l' hl' e => ?_, Or.inr ⟨rfl, ?_⟩⟩
  · rw [Ma.get_set la l l' (by rw [c.1]; exact hl)]; split
    · rfl
    · exact u l' hl' e
  · rcases hh with ⟨_, rfl, rfl⟩ | ⟨_, hh⟩ <;> omega
def SwO (F : List (List Bool)) (m : List Int) (w1 wr : World) (A k M gk : Nat) (s9 : Value) : Prop := ∃ (g : Bool) (la lb : List Bool), s9 = .bool g ∧ Hid (CS w1 wr A k la (A + 1) M lb) ∧ Hid (Ma.Come F m la lb ∧ (∀ l, l < k → m.getD l (-1) = -1 → la.getD l false = true) ∧ (g = false → Ma.Shut F m la lb)) ∧ Hid (gk = 2 * (Ma.left la + Ma.left lb) + (if g then 1 else 0))
def SwI (F : List (List Bool)) (m : List Int) (la0 lb0 : List Bool) (w1 wr : World) (A k M i : Nat) (s9 : Value) : Prop := ∃ (g : Bool) (la lb : List Bool), s9 = .bool g ∧ Hid (CS w1 wr A k la (A + 1) M lb) ∧ Hid (Swp F m la0 lb0 la lb g) ∧ Hid (g = false → ∀ l, l < i → ∀ b, b < M → Ma.RuleAt F m la0 lb0 l b)
def SwB (F : List (List Bool)) (m : List Int) (la0 lb0 : List Bool) (w1 wr : World) (A k M i b : Nat) (s9 : Value) : Prop := ∃ (g : Bool) (la lb : List Bool), s9 = .bool g ∧ Hid (CS w1 wr A k la (A + 1) M lb) ∧ Hid (Swp F m la0 lb0 la lb g) ∧ Hid (g = false → (∀ l, l < i → ∀ b, b < M → Ma.RuleAt F m la0 lb0 l b) ∧ ∀ b', b' < b → Ma.RuleAt F m la0 lb0 i b')
theorem cs_new (w : World) (n M : Nat) (hn : n ≤ 8) (hM : M ≤ 8) : CS w ((w.alloc (.cells (madeCells #[.bool false] n) 4)).alloc (.cells (madeCells #[.bool false] M) 4)) w.heap.size n (List.replicate n false) (w.heap.size + 1) M (List.replicate M false) := by
  have h := madeB_own (w.alloc (.cells (madeCells #[.bool false] n) 4)) M (by omega)
  rw [World.size_alloc] at h
  exact ⟨((Below.refl _ _).alloc (Nat.le_refl _) _).alloc (by simp) _, (madeB_own w n (by omega)).alloc _, owns_low h (by omega), by omega, by simp, by simp⟩
set_option maxRecDepth 20000 in
set_option maxHeartbeats 8000000 in
theorem scm_any {a : Option Addr} {n c M : Nat} {F : List (List Bool)} {w : World} (hn : F.length = n) (hM : Ma.bins F = M) (hG : Ma.goodB F = true) (ha : GRow w a F) :
    Calls Try.prog 30 #[.slice a n c] w fun e w' => ∃ X Y, e = .returned (.tuple #[.slice (some ⟨X, 0, none⟩) n n, .slice (some ⟨Y, 0, none⟩) M M]) ∧ Below w.heap.size w w' ∧ BRow w' (some ⟨X, 0, none⟩) (Ma.rL F (Ma.mat F)) ∧ BRow w' (some ⟨Y, 0, none⟩) (Ma.rB F (Ma.mat F)) := by
  have hM8 : M ≤ 8 := by rw [← hM]; exact Ma.goodB_bins hG
  have n8 : n ≤ 8 := by rw [← hn]; exact Ma.goodB_len hG
  have HA := hide ha
  have HN := hide hn
  have HM := hide hM
  have HG := hide hG
  have HMT := hide (smt_any (c := c) hn hG ha)
  have HBI := hide fun (W : World) (h : Below w.heap.size w W) => sbi_any (w := W) (c := c) hn (ha.below h)
  rw [hM] at HBI
  have HMO := hide (Ma.inv_mat hG).mo
  have HML : Hid ((Ma.mat F).length = n) := hide ((Ma.inv_mat hG).mo.lm.trans hn)
  have hmk1 := makeB_run n (by omega)
  have hmk2 := makeB_run M (by omega)
  generalize Ma.mat F = m at *
  clear hn hM hG ha
  go_enter Try.func30, Try.ntmps30
  go_wp2_with fail
  refine HMT.out.mono ?_
  rintro e w1 ⟨X0, rfl, hb1, own1⟩
  have HMR := hide (arow_owns HML.out.symm own1)
  have HB1 := hide hb1
  have hs1 := hb1.size
  clear own1 hb1 HMT
  go_wp2_with fail
  refine (HBI.out _ (HB1.out.alloc hs1 _)).mono ?_
  rintro e w2 ⟨rfl, rfl⟩
  have HC0 := hide (cs_new w1 n M n8 hM8)
  clear HBI
  go_wp2_with fail
  have HMC : Hid (∀ (W : World), Below w1.heap.size w1 W → ∀ i, i < n → W.cell? ⟨X0, i, none⟩ = some (.int .i64 (m.getD i (-1)))) := hide fun W hW i hi => by
    obtain ⟨b', o', e', h'⟩ := (HMR.out.below hW).at (i := i) (by rw [HML.out]; exact hi)
    cases e'
    rw [Nat.zero_add] at h'
    rw [h']
    simp [show i < m.length by rw [HML.out]; exact hi]
  have HC1 : Hid (CS w1 ((w1.alloc (.cells (madeCells #[.bool false] n) 4)).alloc (.cells (madeCells #[.bool false] M) 4)) w1.heap.size n (Ma.unm m 0) (w1.heap.size + 1) M (List.replicate M false)) := hide (by rw [Ma.unm_zero, HML.out]; exact HC0.out)
  clear HC0 HMR hmk1 hmk2
  go_loopw [7, 8, 22] (fun _ _ s wr => ∃ (k : Nat), s = .int .i64 k ∧ k ≤ n ∧ Hid (CS w1 wr w1.heap.size n (Ma.unm m k) (w1.heap.size + 1) M (List.replicate M false))) (fun _ _ s _ => n - (intOf s).toNat)
  case atStart => exact ⟨0, rfl, Nat.zero_le _, HC1⟩
  case round =>
    clear HC1
    obtain ⟨k, rfl, hk, HC⟩ := hrel
    by_cases hlt : k < n
    · have i0 : (0 : Int) ≤ (k : Int) := by omega
      have i1 : (k : Int) < (n : Int) := by omega
      have c0 := HMC.out _ HC.out.1 k hlt
      obtain ⟨c1, f1⟩ := HC.out.getA hlt
      have HC2 : Hid (CS w1 (wr.setCell ⟨w1.heap.size, k, none⟩ (.bool (decide (m.getD k (-1) < 0)))) w1.heap.size n (Ma.unm m (k + 1)) (w1.heap.size + 1) M (List.replicate M false)) := hide (by
        rw [← Ma.unm_step]; exact HC.out.setA k _)
      generalize m.getD k (-1) = x at *
      go_wp2_with fail
      go_roundw
      case rel => exact ⟨k + 1, by go_num, by omega, HC2⟩
      case measure => simp only [intOf]; omega
    · have hke : k = n := by omega
      subst hke
      obtain ⟨hcm, hun⟩ := Ma.come_unm HMO.out
      rw [HN.out, HM.out] at hcm
      rw [HN.out] at hun
      have HCM := hide hcm
      have HUN := hide hun
      have HC1 := HC
      clear hcm hun HC
      go_wp2_with fail
      go_loopg [9, 10, 11] (2 * (Ma.left (Ma.unm m k) + M) + 1) (fun gk s9 _ _ wr => SwO F m w1 wr w1.heap.size k M gk s9)
      case atStart => exact ⟨true, _, _, rfl, HC1, hide ⟨HCM.out, HUN.out, fun h => by cases h⟩, hide (by rw [Ma.left_new]; simp)⟩
      case round =>
        clear HC1 HCM HUN
        obtain ⟨g, la0, lb0, rfl, HC, HR, HGK⟩ := hrel
        cases g
        · obtain ⟨e1, e2⟩ := Ma.come_eq HR.out.1 (HR.out.2.2 rfl)
          have HF1 : Hid (BRow wr (some ⟨w1.heap.size, 0, none⟩) (Ma.rL F m)) := hide (by rw [← e1]; exact brow_owns HC.out.2.2.2.2.1.symm HC.out.2.1)
          have HF2 : Hid (BRow wr (some ⟨w1.heap.size + 1, 0, none⟩) (Ma.rB F m)) := hide (by rw [← e2]; exact brow_owns HC.out.2.2.2.2.2.symm HC.out.2.2.1)
          have HBF := hide (HB1.out.trans (HC.out.1.mono hs1))
          clear e1 e2
          go_wp2_with fail
          go_ret2
          exact ⟨w1.heap.size, w1.heap.size + 1, rfl, HBF.out, HF1.out, HF2.out⟩
        · have HS0 : Hid (Swp F m la0 lb0 la0 lb0 false) := hide ⟨HR.out.1, by rw [HN.out]; exact HR.out.2.1, Or.inl ⟨rfl, rfl, rfl⟩⟩
          have HGK' : Hid (gk = 2 * (Ma.left la0 + Ma.left lb0) + 1) := hide HGK.out
          clear HR HGK
          go_wp2_with fail
          go_loopw [9, 10, 11, 36] (fun s9 _ _ s wr => ∃ (i : Nat), s = .int .i64 i ∧ i ≤ k ∧ SwI F m la0 lb0 w1 wr w1.heap.size k M i s9) (fun _ _ _ s _ => k - (intOf s).toNat)
          case atStart => exact ⟨0, rfl, Nat.zero_le _, false, la0, lb0, rfl, HC, HS0, hide fun _ l hl => absurd hl (Nat.not_lt_zero _)⟩
          case round =>
            clear HC HS0
            obtain ⟨i, rfl, hi, g, la, lb, rfl, HC, HSw, HRu⟩ := hrel
            by_cases hin : i < k
            · have i0 : (0 : Int) ≤ (i : Int) := by omega
              have i1 : (i : Int) < (k : Int) := by omega
              go_wp2_with fail
              go_loopw [9, 11, 41] (fun s9 _ s wr => ∃ (b : Nat), s = .int .i64 b ∧ b ≤ M ∧ SwB F m la0 lb0 w1 wr w1.heap.size k M i b s9) (fun _ _ s _ => M - (intOf s).toNat)
              case atStart => exact ⟨0, rfl, Nat.zero_le _, g, la, lb, rfl, HC, HSw, hide fun h => ⟨HRu.out h, fun b hb => absurd hb (Nat.not_lt_zero _)⟩⟩
              case round =>
                clear HC HSw HRu
                obtain ⟨b, rfl, hb, g, la, lb, rfl, HC, HSw, HRu⟩ := hrel
                by_cases hbM : b < M
                · have b0 : (0 : Int) ≤ (b : Int) := by omega
                  have b1 : (b : Int) < (M : Int) := by omega
                  obtain ⟨c1, f1⟩ := HC.out.getA hin
                  obtain ⟨c2, f2⟩ := HC.out.getB hbM
                  have c3 := HMC.out _ HC.out.1 i hin
                  obtain ⟨ba, oa, ai, ci, rfl, _, c4, R4⟩ := (HA.out.below (HB1.out.trans (HC.out.1.mono hs1))).at (i := i) (by rw [HN.out]; exact hin)
                  have hrl : (F.getD i []).length = M := (Ma.goodB_row HG.out (by rw [HN.out]; exact hin)).trans HM.out
                  rw [hrl] at c4
                  obtain ⟨br, orr, rfl, _, c5⟩ := R4.at (i := b) (by rw [hrl]; exact hbM)
                  have c5' : wr.cell? ⟨br, orr + b, none⟩ = some (.bool (Ma.fit F i b)) := c5
                  have hlF : i < F.length := by rw [HN.out]; exact hin
                  have hbF : b < Ma.bins F := by rw [HM.out]; exact hbM
                  have HSetB := hide fun (h1 : la.getD i false = true) (h2 : Ma.fit F i b = true) (h3 : lb.getD b false = false) => HSw.out.setB hlF hbF h1 h2 h3
                  have HSetA := hide fun (h1 : lb.getD b false = true) (h2 : m.getD i (-1) = (b : Int)) (h3 : la.getD i false = false) => HSw.out.setA hlF hbF h1 h2 h3
                  have HRule : Hid ((la.getD i false = true → Ma.fit F i b = true → lb.getD b false = true) ∧ (lb.getD b false = true → m.getD i (-1) = (b : Int) → la.getD i false = true) → (g = false → (∀ l, l < i → ∀ b, b < M → Ma.RuleAt F m la0 lb0 l b) ∧ ∀ b', b' < b + 1 → Ma.RuleAt F m la0 lb0 i b')) := hide fun hr hg => ⟨(HRu.out hg).1, fun b' hb' => by
                    rcases HSw.out.2.2 with ⟨_, e1, e2⟩ | ⟨e1, _⟩
                    · by_cases e : b' = b
                      · subst e; rw [← e1, ← e2]; exact hr
                      · exact (HRu.out hg).2 b' (by omega)
                    · rw [hg] at e1; cases e1⟩
                  have HXI : Hid (m.getD i (-1) = m.getD i (-1)) := hide rfl
                  generalize Ma.fit F i b = f at *
                  generalize hxm : m.getD i (-1) = x at *
                  generalize hpA : la.getD i false = p at *
                  generalize hrB : lb.getD b false = r at *
                  have HXI : Hid (m.getD i (-1) = x) := hide hxm
                  have HPA : Hid (la.getD i false = p) := hide hpA
                  clear R4 c5 hrl hlF hbF hxm hpA hrB HRu
                  cases p
                  · cases r
                    · have H1 := hide (HRule.out ⟨fun h => (by cases h), fun h => (by cases h)⟩)
                      go_wp2_with fail
                      go_roundw
                      case rel => exact ⟨b + 1, by go_num, by omega, g, la, lb, rfl, HC, HSw, H1⟩
                      case measure => simp only [intOf]; omega
                    · by_cases hmb : x = (b : Int)
                      · subst hmb
                        have hxe : ((b : Int) == (b : Int)) = true := by simp
                        have HC2 := hide (HC.out.setA i true)
                        have HS2 := hide (HSetA.out rfl rfl rfl)
                        go_wp2_with fail
                        go_roundw
                        case rel => exact ⟨b + 1, by go_num, by omega, true, la.set i true, lb, rfl, HC2, HS2, hide fun h => (by cases h)⟩
                        case measure => simp only [intOf]; omega
                      · have hxe : (x == (b : Int)) = false := by simpa using hmb
                        have H1 := hide (HRule.out ⟨fun h => (by cases h), fun _ h => absurd h hmb⟩)
                        clear hmb
                        go_wp2_with fail
                        go_roundw
                        case rel => exact ⟨b + 1, by go_num, by omega, g, la, lb, rfl, HC, HSw, H1⟩
                        case measure => simp only [intOf]; omega
                  · cases f
                    · cases r
                      · have H1 := hide (HRule.out ⟨fun _ h => (by cases h), fun h => (by cases h)⟩)
                        go_wp2_with fail
                        go_roundw
                        case rel => exact ⟨b + 1, by go_num, by omega, g, la, lb, rfl, HC, HSw, H1⟩
                        case measure => simp only [intOf]; omega
                      · by_cases hmb : x = (b : Int)
                        · have hxe : (x == (b : Int)) = true := by simpa using hmb
                          have H1 := hide (HRule.out ⟨fun _ h => (by cases h), fun _ _ => rfl⟩)
                          have HMB := hide hmb
                          clear hmb
                          go_wp2_with fail
                          go_roundw
                          case rel => exact ⟨b + 1, by go_num, by omega, g, la, lb, rfl, HC, HSw, H1⟩
                          case measure => simp only [intOf]; omega
                        · have hxe : (x == (b : Int)) = false := by simpa using hmb
                          have H1 := hide (HRule.out ⟨fun _ h => (by cases h), fun _ _ => rfl⟩)
                          clear hmb
                          go_wp2_with fail
                          go_roundw
                          case rel => exact ⟨b + 1, by go_num, by omega, g, la, lb, rfl, HC, HSw, H1⟩
                          case measure => simp only [intOf]; omega
                    · cases r
                      · have HC2 := hide (HC.out.setB b true)
                        have HS2 := hide (HSetB.out rfl rfl rfl)
                        obtain ⟨e1, g1⟩ := HC2.out.getA hin
                        rw [HPA.out] at e1
                        obtain ⟨e2, g2⟩ := HC2.out.getB hbM
                        rw [Ma.get_set lb b b (by rw [HC.out.2.2.2.2.2]; exact hbM), if_pos rfl] at e2
                        have e3 := HMC.out _ HC2.out.1 i hin
                        rw [HXI.out] at e3
                        by_cases hmb : x = (b : Int)
                        · have hxe : (x == (b : Int)) = true := by simpa using hmb
                          clear hmb
                          go_wp2_with fail
                          go_roundw
                          case rel => exact ⟨b + 1, by go_num, by omega, true, la, lb.set b true, rfl, HC2, HS2, hide fun h => (by cases h)⟩
                          case measure => simp only [intOf]; omega
                        · have hxe : (x == (b : Int)) = false := by simpa using hmb
                          clear hmb
                          go_wp2_with fail
                          go_roundw
                          case rel => exact ⟨b + 1, by go_num, by omega, true, la, lb.set b true, rfl, HC2, HS2, hide fun h => (by cases h)⟩
                          case measure => simp only [intOf]; omega
                      · by_cases hmb : x = (b : Int)
                        · have hxe : (x == (b : Int)) = true := by simpa using hmb
                          have H1 := hide (HRule.out ⟨fun _ _ => rfl, fun _ _ => rfl⟩)
                          have HMB := hide hmb
                          clear hmb
                          go_wp2_with fail
                          go_roundw
                          case rel => exact ⟨b + 1, by go_num, by omega, g, la, lb, rfl, HC, HSw, H1⟩
                          case measure => simp only [intOf]; omega
                        · have hxe : (x == (b : Int)) = false := by simpa using hmb
                          have H1 := hide (HRule.out ⟨fun _ _ => rfl, fun _ _ => rfl⟩)
                          clear hmb
                          go_wp2_with fail
                          go_roundw
                          case rel => exact ⟨b + 1, by go_num, by omega, g, la, lb, rfl, HC, HSw, H1⟩
                          case measure => simp only [intOf]; omega
                · have hbe : b = M := by omega
                  subst hbe
                  have H1 : Hid (g = false → ∀ l, l < i + 1 → ∀ b', b' < b → Ma.RuleAt F m la0 lb0 l b') := hide fun hg l hl b' hb' => by
                    by_cases e : l = i
                    · subst e; exact (HRu.out hg).2 b' hb'
                    · exact (HRu.out hg).1 l (by omega) b' hb'
                  go_wp2_with fail
                  go_roundw
                  case rel => exact ⟨i + 1, by go_num, by omega, g, la, lb, rfl, HC, HSw, H1⟩
                  case measure => simp only [intOf]; omega
            · have hie : i = k := by omega
              subst hie
              go_wp2_with fail
              go_roundg (2 * (Ma.left la + Ma.left lb) + (if g then 1 else 0))
              case measure =>
                have h1 := HGK'.out
                rcases HSw.out.2.2 with ⟨rfl, rfl, rfl⟩ | ⟨rfl, h2⟩
                · simp; omega
                · simp; omega
              case rel =>
                refine ⟨g, la, lb, rfl, HC, hide ⟨HSw.out.1, by have := HSw.out.2.1; rwa [HN.out] at this, fun hg => ?_⟩, hide rfl⟩
                rcases HSw.out.2.2 with ⟨_, rfl, rfl⟩ | ⟨e, _⟩
                · refine Ma.shut_of HSw.out.2.1 fun l hl b hb => HRu.out hg l (by rw [← HN.out]; exact hl) b (by rw [← HM.out]; exact hb)
                · rw [hg] at e; cases e
end Go.Proofs.Ytfmdahpldjkifaa
