/-
  What BestTable of the program and of the model answer.
-/
import Derived.Test.YtdlpbemjbmgbeaaCl
namespace Go.Proofs.Ytdlpbemjbmgbeaa
open Go.RowKit

def btL (L : List (List Int)) (p : Int) : List Int := if chB L p then Of.tab L p.toNat else []
theorem btL_no {L : List (List Int)} {p : Int} (h : chB L p = false) : btL L p = [] := by simp [btL, h]
theorem btL_yes {L : List (List Int)} {P : Nat} (h : chB L (P : Int) = true) : btL L (P : Int) = Of.tab L P := by simp [btL, h]
theorem btL_len (L : List (List Int)) (p : Int) : (btL L p).length ≤ 41 := by
  cases h : chB L p
  · rw [btL_no h]; simp
  · have := chB_yes h
    unfold btL
    rw [h, if_pos rfl, Of.tab_len]
    omega
theorem make_one {P M : Nat} (hM : P + 1 = M) (hM' : M ≤ 1000) (w : World) : (Instr.makeSlice 26 (.int .i64 ((P : Int) + 1)) (.int .i64 ((P : Int) + 1))).run Try.prog w = .ok (.slice (some ⟨w.heap.size, 0, none⟩) M M) (w.alloc (.cells (madeCells #[.int .i64 0] M) 3)) := by
  have e : ((M : Nat) : Int) = (P : Int) + 1 := by omega
  rw [← e]; exact makeI_run M (by omega) w

set_option maxRecDepth 100000 in
set_option maxHeartbeats 1000000 in
theorem bt_no {a : Option Addr} {n c : Nat} {L : List (List Int)} {p : Int} {w : World} (hn : L.length = n) (h : ORow w a L) (hg : chB L p = false) :
    Calls Try.prog 22 #[.slice a n c, .int .i64 p] w fun e w' => e = .returned (.tuple #[.slice none 0 0, .bool false]) ∧ Below w.heap.size w w' := by
  have HC := hide (ach_eq (c := c) hn h hg)
  clear h hn hg
  go_enter Try.func22, Try.ntmps22
  go_wp2_with fail
  refine HC.out.mono ?_
  rintro e w1 ⟨rfl, hb1⟩
  go_wp2_with fail
  go_ret2
  exact ⟨rfl, hb1⟩
set_option maxRecDepth 100000 in
set_option maxHeartbeats 2000000 in
theorem bt_yes {a : Option Addr} {n c P M : Nat} {L : List (List Int)} {w : World} (hn : L.length = n) (hM : P + 1 = M) (hM' : M ≤ 1000) (h : ORow w a L) (hg : chB L (P : Int) = true) :
    Calls Try.prog 22 #[.slice a n c, .int .i64 P] w fun e w' => ∃ R, e = .returned (.tuple #[.slice (some ⟨R, 0, none⟩) M M, .bool true]) ∧ w'.ownsRow w.heap.size 3 1 (.slice (some ⟨R, 0, none⟩) M M) M (ints (Of.tab L P)) ∧ Below w.heap.size w w' := by
  have HC := hide (ach_eq (c := c) hn h hg)
  have H := hide h
  have HN := hide hn
  have HG := hide (chB_yes hg).1
  have hmk := make_one hM hM'
  have HM := hide hM
  have hP : P ≤ 1000 := by omega
  clear h hn hg hM
  go_enter Try.func22, Try.ntmps22
  go_wp2_with fail
  refine HC.out.mono ?_
  rintro e w1 ⟨rfl, hb1⟩
  clear HC
  have HF := hide (fr_any (d := c) (c := M) (R := w1.heap.size) (base := w1.heap.size) (w := w1.alloc (.cells (madeCells #[.int .i64 0] M) 3)) HN.out HM.out hM' HG.out ((H.out.below hb1).x (o_below_new _ _) (Nat.le_refl _)) (made_own w1 M (by omega)))
  go_wp2_with fail
  refine HF.out.mono ?_
  rintro e w2 ⟨G, rfl, hg2, own2, _⟩
  have HB2 : Hid (Below w.heap.size w w2) := hide ((hb1.trans ((o_below_new w1 (.cells (madeCells #[.int .i64 0] M) 3)).mono hb1.size)).trans (grown_below' hg2 hb1.size (by have := hb1.size; simp; omega)))
  have HO2 := hide (owns_low own2 hb1.size)
  clear hmk own2 hg2
  go_wp2_with fail
  go_ret2
  exact ⟨_, rfl, HO2.out, HB2.out⟩
theorem bt_w {a : Option Addr} {n c : Nat} {L : List (List Int)} {p : Int} {w : World} (hn : L.length = n) (h : ORow w a L) :
    Calls Try.prog 22 #[.slice a n c, .int .i64 p] w fun e w' => ∃ v, e = .returned (.tuple #[v, .bool (chB L p)]) ∧ w'.ownsRow w.heap.size 3 1 v (btL L p).length (ints (btL L p)) ∧ Below w.heap.size w w' := by
  cases hg : chB L p
  · refine (bt_no hn h hg).mono ?_
    rintro e w' ⟨rfl, hb⟩
    exact ⟨_, rfl, by rw [btL_no hg]; exact World.ownsRow_nil _ _ _ _, hb⟩
  · obtain ⟨P, rfl⟩ : ∃ P : Nat, p = (P : Int) := ⟨p.toNat, by have := chB_yes hg; omega⟩
    have := chB_yes hg
    refine (bt_yes (M := P + 1) hn rfl (by omega) h hg).mono ?_
    rintro e w' ⟨R, rfl, own, hb⟩
    exact ⟨_, rfl, by rw [btL_yes hg, Of.tab_len]; exact own, hb⟩

set_option maxRecDepth 100000 in
set_option maxHeartbeats 1000000 in
theorem sbt_no {a : Option Addr} {n c : Nat} {L : List (List Int)} {p : Int} {w : World} (hn : L.length = n) (hm : n ≤ 1048576) (h : ORow w a L) (hg : chB L p = false) :
    Calls Try.prog 23 #[.slice a n c, .int .i64 p] w fun e w' => e = .returned (.tuple #[.slice none 0 0, .bool false]) ∧ Below w.heap.size w w' := by
  have HC := hide (sgof_any (c := c) hn hm h)
  unfold chB at hg
  clear h hn
  cases ho : Of.offersB L
  · rw [ho] at HC
    clear ho hg
    go_enter Try.func23, Try.ntmps23
    go_wp2_with ((go_at_call 12; refine HC.out.mono ?_; rintro e w1 ⟨rfl, hb1⟩))
    go_ret2
    exact ⟨rfl, hb1⟩
  · rw [ho] at HC hg
    have hp : Pf.inB p 0 40 = false := hg
    clear ho hg
    go_enter Try.func23, Try.ntmps23
    go_wp2_with (first | (go_at_call 12; refine HC.out.mono ?_; rintro e w1 ⟨rfl, hb1⟩) | (go_at_call 32; refine (pl_eq hp).mono ?_; rintro e w2 ⟨rfl, rfl⟩))
    go_ret2
    exact ⟨rfl, hb1⟩
set_option maxRecDepth 100000 in
set_option maxHeartbeats 2000000 in
theorem sbt_yes {a : Option Addr} {n c P M : Nat} {L : List (List Int)} {w : World} (hn : L.length = n) (hM : P + 1 = M) (hM' : M ≤ 1000) (h : ORow w a L) (hg : chB L (P : Int) = true) :
    Calls Try.prog 23 #[.slice a n c, .int .i64 P] w fun e w' => ∃ R cap, e = .returned (.tuple #[.slice (some ⟨R, 0, none⟩) M cap, .bool true]) ∧ ARow w' (some ⟨R, 0, none⟩) (Of.tab L P) ∧ Below w.heap.size w w' := by
  have HG := hide (chB_yes hg).1
  have h12 := Of.offersB_len HG.out
  rw [hn] at h12
  have HC := hide (sgof_any (c := c) hn (by omega) h)
  rw [HG.out] at HC
  have hp : Pf.inB (P : Int) 0 40 = true := Pf.inB_of (chB_yes hg).2.1 (chB_yes hg).2.2
  have H := hide h
  have HN := hide hn
  have HM := hide hM
  clear h hn hg hM
  go_enter Try.func23, Try.ntmps23
  go_wp2_with (first | (go_at_call 12; refine HC.out.mono ?_; rintro e w1 ⟨rfl, hb1⟩) | (go_at_call 32; refine (pl_eq hp).mono ?_; rintro e w2 ⟨rfl, rfl⟩))
  refine (rows_any (d := c) HN.out HM.out hM' HG.out (H.out.below hb1)).mono ?_
  rintro e w2 ⟨G, C, gs, rfl, hb2, Q2⟩
  have HB2 := hide (hb1.trans (hb2.mono hb1.size))
  have c0 := Q2.outer (i := n) (by omega)
  obtain ⟨e1, e2⟩ := Q2.2.2.2.1 n (by omega)
  rw [tl_at L P (Nat.le_refl n), List.take_of_length_le (by rw [HN.out]; exact Nat.le_refl _)] at e1 e2
  unfold qv at c0 e2
  generalize gs.getD n (0, 0) = gc at *
  obtain ⟨R, cap⟩ := gc
  dsimp only at c0 e2
  have HR := hide (arow_owns e1.symm e2)
  have i0' : (0 : Int) ≤ (n : Int) := by omega
  have i1' : (n : Int) < ((n + 1 : Nat) : Int) := by omega
  clear e1 e2 Q2 HC
  go_wp2_with fail
  go_ret2
  exact ⟨R, cap, rfl, HR.out, HB2.out⟩
theorem sbt_w {a : Option Addr} {n c : Nat} {L : List (List Int)} {p : Int} {w : World} (hn : L.length = n) (hm : n ≤ 1048576) (h : ORow w a L) :
    Calls Try.prog 23 #[.slice a n c, .int .i64 p] w fun e w' => ∃ a0 c0, e = .returned (.tuple #[.slice a0 (btL L p).length c0, .bool (chB L p)]) ∧ ARow w' a0 (btL L p) ∧ Below w.heap.size w w' := by
  cases hg : chB L p
  · refine (sbt_no hn hm h hg).mono ?_
    rintro e w' ⟨rfl, hb⟩
    exact ⟨none, 0, by rw [btL_no hg]; rfl, by rw [btL_no hg]; exact Or.inl rfl, hb⟩
  · obtain ⟨P, rfl⟩ : ∃ P : Nat, p = (P : Int) := ⟨p.toNat, by have := chB_yes hg; omega⟩
    have := chB_yes hg
    refine (sbt_yes (M := P + 1) hn rfl (by omega) h hg).mono ?_
    rintro e w' ⟨R, cap, rfl, r, hb⟩
    exact ⟨some ⟨R, 0, none⟩, cap, by rw [btL_yes hg, Of.tab_len], by rw [btL_yes hg]; exact r, hb⟩
end Go.Proofs.Ytdlpbemjbmgbeaa
