/-
  FnProfiles: what holds of profiles, in the words of the law.
-/
import Derived.Test.YtegonbilomcpkaaIc
import Derived.Test.YtegonbilomcpkaaMv
import Derived.Test.YtegonbilomcpkaaPi
import Derived.Deep.AppendLies
namespace Go.Proofs.Ytegonbilomcpkaa
open Go.RowKit

theorem add_plainI (b o j : Nat) : (⟨b, o, none⟩ : Addr).add j = ⟨b, o + j, none⟩ := by unfold Addr.add; split <;> simp_all
theorem push_line {w : World} {base n : Nat} {v : Value} {xs : List Value} {x y : Int} (hown : w.ownsRow base 35 2 v n xs) (hn : n ≤ 100000) (hb : base ≤ w.heap.size) :
    ∃ v' w', (∀ ty, (Builtin.append_ #[24, 24] ty #[v, .slice (some ⟨w.heap.size, 0, none⟩) 1 1]).run Try.prog (w.alloc (.cells #[.int .i64 x, .int .i64 y] 35)) = .ok v' w') ∧ w'.ownsRow base 35 2 v' (n + 1) (xs ++ [.int .i64 x, .int .i64 y]) ∧ w.grownBy w' v.ownBlock := by
  have h : (Try.prog.info? 35).map (fun i => (i.zero, i.size, i.bytes)) = some (some (.agg #[.int .i64 0, .int .i64 0]), 2, 16) := by kernel_rfl
  obtain ⟨i0, hi, hzz⟩ := Option.map_eq_some_iff.1 h
  simp only [Prod.mk.injEq] at hzz
  obtain ⟨hz0, hz1, hz2⟩ := hzz
  obtain ⟨g, cap, w', h1, h2, h3, _, _⟩ := run_append_lies (P := Try.prog) (w := w.alloc (.cells #[.int .i64 x, .int .i64 y] 35)) 24 0 base 35 i0 _ 2 16 Try.underlying24 hi hz0 hz1 hz2 rfl (by decide) v n xs (hown.alloc _) ⟨w.heap.size, 0, none⟩ 1 1 [.int .i64 x, .int .i64 y] rfl (fun j u hj => by
      have hj2 : j = 0 ∨ j = 1 := by
        have := (List.getElem?_eq_some_iff.1 hj).1
        simp at this; omega
      rw [add_plainI]
      rcases hj2 with rfl | rfl
      · simp at hj; subst hj; simp
      · simp at hj; subst hj; simp) (fun u hu => by simp at hu; rcases hu with rfl | rfl <;> rfl) (by omega) (by unfold maxLen; omega) (by omega) (by simp; omega) _ rfl
  refine ⟨_, w', fun _ => h1, h2, ?_⟩
  have hg := World.grownBy_alloc w (.cells #[.int .i64 x, .int .i64 y] 35) v.ownBlock
  exact ⟨h3.os.trans hg.os, h3.tape.trans hg.tape, h3.output.trans hg.output, Nat.le_trans hg.size h3.size, fun b hb hne => (h3.block b (Nat.lt_of_lt_of_le hb hg.size) hne).trans (hg.block b hb hne)⟩
theorem ap_q {a b a' b' : Option Addr} {c d c' d' : Nat} {pa fa pb fb : List Int} {w : World} (ha : ARow w a pa) (hb : ARow w b fa) (ha' : ARow w a' pb) (hb' : ARow w b' fb) :
    Calls Try.prog 12 #[.agg #[.slice a pa.length c, .slice b fa.length d], .agg #[.slice a' pb.length c', .slice b' fb.length d']] w (POut (addP pa fa pb fb) (addFl pa fa pb fb) (addB pa fa pb fb) w) :=
  (ap_any ha hb ha' hb').mono fun e w' ⟨v1, v2, he, hB, o1, o2, _⟩ => by
    obtain ⟨x1, y1, rfl, r1⟩ := own_row (addP_len _ _ _ _) o1
    obtain ⟨x2, y2, rfl, r2⟩ := own_row (addFl_len _ _ _ _) o2
    unfold POut
    rw [addP_len, addFl_len]
    exact ⟨_, _, _, _, he, r1, r2, hB⟩
theorem sap_q {a b a' b' : Option Addr} {c d c' d' : Nat} {pa fa pb fb : List Int} {w : World} (ha : ARow w a pa) (hb : ARow w b fa) (ha' : ARow w a' pb) (hb' : ARow w b' fb) :
    Calls Try.prog 16 #[.agg #[.slice a pa.length c, .slice b fa.length d], .agg #[.slice a' pb.length c', .slice b' fb.length d']] w (POut (addP pa fa pb fb) (addFl pa fa pb fb) (addB pa fa pb fb) w) :=
  (sap_any ha hb ha' hb').mono fun e w' ⟨v1, v2, he, hB, o1, o2, _⟩ => by
    obtain ⟨x1, y1, rfl, r1⟩ := own_row (addP_len _ _ _ _) o1
    obtain ⟨x2, y2, rfl, r2⟩ := own_row (addFl_len _ _ _ _) o2
    unfold POut
    rw [addP_len, addFl_len]
    exact ⟨_, _, _, _, he, r1, r2, hB⟩
/-- What holds of a profile that was told true. -/
theorem pr_facts {gs : List Gd} {ls : List (Int × Int)} (h : prB gs ls = true) : prB gs ls.reverse = true ∧ prP gs ls.reverse = prP gs ls ∧ prF gs ls.reverse = prF gs ls ∧ Pf.goodP (prP gs ls) (prF gs ls) = true ∧ (prP gs ls).sum = ls.length ∧ Pf.allB (prP gs ls) (-10000000) 10000000 = true ∧
    ∀ k, prB gs (ls.take k) = true ∧ prB gs (ls.drop k) = true ∧ addB (prP gs (ls.take k)) (prF gs (ls.take k)) (prP gs (ls.drop k)) (prF gs (ls.drop k)) = true ∧ addP (prP gs (ls.take k)) (prF gs (ls.take k)) (prP gs (ls.drop k)) (prF gs (ls.drop k)) = prP gs ls ∧ addFl (prP gs (ls.take k)) (prF gs (ls.take k)) (prP gs (ls.drop k)) (prF gs (ls.drop k)) = prF gs ls := by
  obtain ⟨hg, hl⟩ := prB_yes h
  have yes : ∀ l, linesB gs.length l = true → prB gs l = true ∧ prP gs l = Pr.PP l gs.length ∧ prF gs l = Pr.FF gs l gs.length := fun l hl => by
    have e : prB gs l = true := by simp [prB, hg, hl]
    exact ⟨e, by simp [prP, e], by simp [prF, e]⟩
  obtain ⟨_, e1, e2⟩ := yes ls hl
  obtain ⟨r0, r1, r2⟩ := yes _ (Pr.lines_rev hl)
  have hgood := Pr.good hg rfl hl
  refine ⟨r0, by rw [r1, e1, Pr.PP_rev], by rw [r2, e2, Pr.FF_rev], by rw [e1, e2]; exact hgood, by rw [e1]; exact Pr.sum_PP (Pr.lines_iff.1 hl).2, ?_, fun k => ?_⟩
  · rw [e1]
    refine Pf.allB_of fun i hi => ?_
    have := Pf.inB_yes (Pf.allB_get (Pf.goodP_picks hgood) hi)
    exact Pf.inB_of (by omega) (by omega)
  · obtain ⟨t0, t1, t2⟩ := yes _ (Pr.lines_take hl k)
    obtain ⟨d0, d1, d2⟩ := yes _ (Pr.lines_drop hl k)
    have s1 : sumL (Pr.PP (ls.take k) gs.length) (Pr.PP (ls.drop k) gs.length) = Pr.PP ls gs.length := by rw [Pr.PP_sum, List.take_append_drop]
    have s2 : sumL (Pr.FF gs (ls.take k) gs.length) (Pr.FF gs (ls.drop k) gs.length) = Pr.FF gs ls gs.length := by rw [Pr.FF_sum, List.take_append_drop]
    have hb : addB (prP gs (ls.take k)) (prF gs (ls.take k)) (prP gs (ls.drop k)) (prF gs (ls.drop k)) = true := by
      rw [t1, t2, d1, d2]
      simp only [addB, Bool.and_eq_true, decide_eq_true_eq]
      refine ⟨Pr.good hg rfl (Pr.lines_take hl k), Pr.good hg rfl (Pr.lines_drop hl k), by rw [Pr.PP_len, Pr.PP_len], ?_⟩
      rw [s1, s2]; exact hgood
    refine ⟨t0, d0, hb, ?_, ?_⟩
    · simp only [addP, hb, if_true]; rw [t1, d1, e1, s1]
    · simp only [addFl, hb, if_true]; rw [t2, d2, e2, s2]
theorem LRow.take {w : World} {a : Option Addr} {ls : List (Int × Int)} (h : LRow w a ls) (k : Nat) : LRow w a (ls.take k) := by
  rcases h with h | ⟨b, o, ha, hb, hc⟩
  · exact Or.inl (by rw [h]; simp)
  · refine Or.inr ⟨b, o, ha, hb, fun i hi => ?_⟩
    rw [List.length_take] at hi
    have e : (ls.take k).getD i (0, 0) = ls.getD i (0, 0) := by simp [show i < k by omega]
    rw [e]; exact hc i (by omega)
theorem LRow.drop {w : World} {b o : Nat} {ls : List (Int × Int)} (h : LRow w (some ⟨b, o, none⟩) ls) (k : Nat) : LRow w (some ⟨b, o + k * 2, none⟩) (ls.drop k) := by
  rcases h with h | ⟨b', o', ha, hb, hc⟩
  · exact Or.inl (by rw [h]; simp)
  · cases ha
    refine Or.inr ⟨_, _, rfl, hb, fun i hi => ?_⟩
    rw [List.length_drop] at hi
    have e : (ls.drop k).getD i (0, 0) = ls.getD (k + i) (0, 0) := by simp
    rw [e]
    have := hc (k + i) (by omega)
    rw [show o + k * 2 + i * 2 = o + (k + i) * 2 by omega]
    exact this
/-- IndexOf in one word. -/
def ixN (ps fs : List Int) (g : Int) : Int := if idxB ps fs g then Fr.mkN (fs.getD g.toNat 0) (ps.getD g.toNat 0) else 0
def ixD (ps fs : List Int) (g : Int) : Int := if idxB ps fs g then Fr.mkD (fs.getD g.toNat 0) (ps.getD g.toNat 0) else 0
theorem ix_q {a b : Option Addr} {c d : Nat} {g : Int} {ps fs : List Int} {w : World} (ha : ARow w a ps) (hb : ARow w b fs) :
    Calls Try.prog 19 #[.agg #[.slice a ps.length c, .slice b fs.length d], .int .i64 g] w fun e w' => e = .returned (.tuple #[.agg #[.int .i64 (ixN ps fs g), .int .i64 (ixD ps fs g)], .bool (idxB ps fs g)]) ∧ Below w.heap.size w w' := by
  unfold ixN ixD
  cases h : idxB ps fs g
  · exact (io_any rfl rfl ha hb).1 h
  · exact (io_any rfl rfl ha hb).2 h
theorem six_q {a b : Option Addr} {c d : Nat} {g : Int} {ps fs : List Int} {w : World} (ha : ARow w a ps) (hb : ARow w b fs) :
    Calls Try.prog 20 #[.agg #[.slice a ps.length c, .slice b fs.length d], .int .i64 g] w fun e w' => e = .returned (.tuple #[.agg #[.int .i64 (ixN ps fs g), .int .i64 (ixD ps fs g)], .bool (idxB ps fs g)]) ∧ Below w.heap.size w w' := by
  unfold ixN ixD
  cases h : idxB ps fs g
  · exact (sio_any rfl rfl ha hb).1 h
  · exact (sio_any rfl rfl ha hb).2 h
end Go.Proofs.Ytegonbilomcpkaa
