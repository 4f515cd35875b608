/-
  FnChoice: what holds of the best choice, in the words of the law; counts that grow by one.
-/
import Derived.Test.YtdlpbemjbmgbeaaCy
import Derived.Test.YtdlpbemjbmgbeaaDv
import Derived.Test.YtdlpbemjbmgbeaaTb
import Derived.Test.YtdlpbemjbmgbeaaLBo
import Derived.Test.YtdlpbemjbmgbeaaCg
import Derived.Test.YtdlpbemjbmgbeaaCo
namespace Go.Proofs.Ytdlpbemjbmgbeaa
open Go.RowKit

theorem va_yes {L : List (List Int)} {cs : List Int} (h : Of.valB L cs = true) : vaI L cs = Of.valS L cs L.length := by simp [vaI, h]
theorem bc_facts {L : List (List Int)} {p : Int} (h : chB L p = true) : ∃ P : Nat, p = P ∧ P ≤ 40 ∧ Of.offersB L = true ∧ (bcL L p).length = L.length ∧ Of.valB L (bcL L p) = true ∧ vaI L (bcL L p) = bcI L p ∧ (bcL L p).sum ≤ P ∧ 0 ≤ bcI L p ∧ bcI L p ≤ boI L p ∧ ∀ cs, Of.valB L cs = true → cs.sum ≤ P → vaI L cs ≤ bcI L p := by
  obtain ⟨hg, h0, h1⟩ := chB_yes h
  obtain ⟨P, rfl⟩ : ∃ P : Nat, p = (P : Int) := ⟨p.toNat, by omega⟩
  have hv := Of.valB_choice hg P
  have hb : boI L (P : Int) = Of.topS L L.length := by simp [boI, h]
  rw [bcL_yes h, bcI_yes h, hb, va_yes hv]
  refine ⟨P, rfl, by omega, hg, Of.choice_len L P, hv, Of.valS_choice L P, Of.sum_choice L P, ?_, Of.tab_top L P, fun cs hc hs => by rw [va_yes hc]; exact Of.val_le hc hs⟩
  have h := Of.tab_ups (L := L) (P := P) (p := P) (f := fun _ => 0) (fun i hi => Nat.zero_le _) (Nat.le_refl P) (by
    have : ∀ k, Of.sm (fun _ => 0) k = 0 := fun k => by
      induction k with
      | zero => rfl
      | succ k ih => rw [Of.sm_succ, ih]
    rw [this]; exact Nat.zero_le _)
  rw [Of.vl_zero L (fun _ => 0) L.length (by
    have : ∀ k, Of.sm (fun _ => 0) k = 0 := fun k => by
      induction k with
      | zero => rfl
      | succ k ih => rw [Of.sm_succ, ih]
    rw [this]; exact Nat.le_refl _)] at h
  exact h
theorem set_sum : ∀ (cs : List Int) (k : Nat) (x : Int), k < cs.length → (cs.set k x).sum = cs.sum - cs.getD k 0 + x
  | [], k, _, h => by simp at h
  | c :: cs, 0, x, _ => by simp; omega
  | c :: cs, k + 1, x, h => by
    have := set_sum cs k x (by simpa using h)
    simp only [List.set_cons_succ, List.sum_cons, List.getD_cons_succ]
    omega
/-- One more at the k-th. -/
theorem val_more {L : List (List Int)} {cs : List Int} {k : Nat} (h : Of.valB L cs = true) (hk : k < L.length) (hl : cs.getD k 0 < (L.getD k []).length) : Of.valB L (cs.set k (cs.getD k 0 + 1)) = true ∧ (cs.set k (cs.getD k 0 + 1)).sum = cs.sum + 1 := by
  obtain ⟨h1, h2, h3⟩ := Of.valB_yes h
  refine ⟨Of.valB_of h1 (by simpa using h2) fun i hi => ?_, by rw [set_sum _ _ _ (by omega)]; omega⟩
  have := h3 i hi
  by_cases e : i = k
  · subst e
    have e1 : (cs.set i (cs.getD i 0 + 1)).getD i 0 = cs.getD i 0 + 1 := by rw [Pf.getD_lt _ 0 (by simp; omega)]; simp
    rw [e1]; exact Pf.inB_of (by omega) (by omega)
  · have e1 : (cs.set k (cs.getD k 0 + 1)).getD i 0 = cs.getD i 0 := by simp [show ¬ k = i from fun h => e h.symm]
    rw [e1]; exact Pf.inB_of (by omega) (by omega)
theorem val_none {L : List (List Int)} (h : Of.offersB L = true) : Of.valB L (List.replicate L.length 0) = true :=
  Of.valB_of h (by simp) fun i hi => by
    have e : (List.replicate L.length (0 : Int)).getD i 0 = 0 := by simp [List.getD_eq_getElem?_getD, hi]
    rw [e]; exact Pf.inB_of (by omega) (by omega)

theorem sameI_q {a b : Option Addr} {c d n : Nat} {xs : List Int} {w : World} (hn : xs.length = n) (hl : n ≤ 1048576) (h1 : ARow w a xs) (h2 : ARow w b xs) :
    Calls Try.prog 10 #[.slice a n c, .slice b n d] w fun e w' => e = .returned (.bool true) ∧ ∃ m, w' = w.drewN m := by
  subst hn
  rcases h1 with rfl | ⟨b1, o1, rfl, hb1, c1⟩
  · exact (sameI_zero a b c d w).mono fun e w' ⟨h, hw⟩ => ⟨h, 0, hw⟩
  · rcases h2 with rfl | ⟨b2, o2, rfl, hb2, c2⟩
    · exact (sameI_zero _ b c d w).mono fun e w' ⟨h, hw⟩ => ⟨h, 0, hw⟩
    · exact (sameI_some xs b1 o1 c b2 o2 d w (by omega) c1 c2).mono fun e w' ⟨h, m, hw⟩ => ⟨h, m, hw⟩
set_option maxRecDepth 100000 in
set_option maxHeartbeats 1000000 in
theorem so_one {b1 b2 c1 c2 : Nat} {xs : List Int} {w : World} (hl : xs.length ≤ 1000) (h1 : ORow w (some ⟨b1, 0, none⟩) [xs]) (h2 : ORow w (some ⟨b2, 0, none⟩) [xs]) :
    Calls Try.prog 20 #[.slice (some ⟨b1, 0, none⟩) 1 c1, .slice (some ⟨b2, 0, none⟩) 1 c2] w fun e w' => e = .returned (.bool true) ∧ Below w.heap.size w w' := by
  obtain ⟨b, off, ai, ci, e, hbl, hc1, r1⟩ := h1.at (show 0 < [xs].length by simp)
  cases e
  obtain ⟨b', off', ai2, ci2, e, hbl2, hc2, r2⟩ := h2.at (show 0 < [xs].length by simp)
  cases e
  have R1 : Hid (ARow w ai xs) := hide r1
  have R2 : Hid (ARow w ai2 xs) := hide r2
  have g1 : w.cell? ⟨b1, 0, none⟩ = some (.slice ai xs.length ci) := hc1
  have g2 : w.cell? ⟨b2, 0, none⟩ = some (.slice ai2 xs.length ci2) := hc2
  clear hc1 hc2 r1 r2 h1 h2
  go_enter Try.func20, Try.ntmps20
  go_wp2_with fail
  go_loopw [4, 5, 13] (fun s4 _ s13 wr => ∃ i : Nat, s4 = .bool false ∧ s13 = .int .i64 i ∧ i ≤ 1 ∧ (i = 0 → wr = w) ∧ Hid (Below w.heap.size w wr)) (fun _ _ s _ => (1 - (intOf s).toNat))
  case atStart => exact ⟨0, rfl, rfl, by omega, fun _ => rfl, hide (Below.refl _ _)⟩
  case round =>
    obtain ⟨i, rfl, rfl, hi, hw, HB⟩ := hrel
    by_cases e : i = 0
    · subst e
      obtain rfl := hw rfl
      go_wp2_with fail
      go_quiet ((go_at_call 10; exact Calls.quiet_of (sameI_q rfl (by omega) R1.out R2.out)))
      go_wp2_with fail
      go_roundw
      case rel => exact ⟨1, rfl, by go_num, by omega, fun h => by omega, hide (below_drewN HB.out _)⟩
      case measure => simp only [intOf]; omega
    · obtain rfl : i = 1 := by omega
      clear hw
      go_wp2_with fail
      go_ret
      exact ⟨rfl, HB.out⟩
end Go.Proofs.Ytdlpbemjbmgbeaa
