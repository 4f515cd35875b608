/-
  What dropUnasked of the program's map answers: those without picks are gone.
-/
import Derived.Test.YtegonbilomcpkaaMq
import Derived.Deep.AppendLies
namespace Go.Proofs.Ytegonbilomcpkaa
open Go.RowKit Go.Maps Go.Sort

/-- Those without picks, of the first j keys, are gone. -/
def Dem.less (f : Dem) (l : List Nat) : Dem := fun i => if i ∈ l ∧ (f.get i).1 = 0 then none else f i
/-- All without picks are gone. -/
def Dem.asked (f : Dem) : Dem := fun i => if (f.get i).1 = 0 then none else f i
theorem less_nil (f : Dem) : f.less [] = f := by funext i; simp [Dem.less]
theorem less_all (f : Dem) (n : Nat) (h : ∀ i, (f i).isSome = true → i < n) : f.less (f.keys n) = f.asked := by
  funext i
  unfold Dem.less Dem.asked
  by_cases hz : (f.get i).1 = 0
  · cases hf : f i with
    | none => simp
    | some x => simp [hz, mem_keys, hf, h i (by rw [hf]; rfl)]
  · simp [hz]
theorem less_get {f : Dem} {l : List Nat} {q : Nat} (h : q ∉ l) : (f.less l).get q = f.get q := by unfold Dem.get Dem.less; simp [h]
theorem less_keep {f : Dem} {l : List Nat} {q : Nat} (hz : (f.get q).1 ≠ 0) : f.less (l ++ [q]) = f.less l := by
  funext i
  unfold Dem.less
  by_cases e : i = q
  · subst e; simp [hz]
  · simp [e]
theorem less_drop {f : Dem} {l : List Nat} {q : Nat} (hz : (f.get q).1 = 0) : f.less (l ++ [q]) = (f.less l).del q := by
  funext i
  unfold Dem.less Dem.del
  by_cases e : i = q
  · subst e; simp [hz]
  · simp [e]
theorem MO.inside {w : World} {b n nn : Nat} {f : Dem} (h : MO w b n nn f) : ∀ i, (f i).isSome = true → i < n := fun i hi => by
  obtain ⟨D, _, hd⟩ := h
  obtain ⟨j, hj, e⟩ := hd.keys (ky i) (by rw [hd.has_ i]; exact hi)
  by_cases h : i = j
  · omega
  · exact absurd e (ky_ne h)
theorem tally0 (x y : Value) (W : World) : (Instr.field 85 (.agg #[x, y]) 0).run Try.prog W = .ok x W := by
  have u := Try.underlying85
  have u3 := Try.isAgg3
  simp [Instr.field, go_sem, run_underlying u, u3, Result.andThen]
  rfl
theorem tally1 (x y : Value) (W : World) : (Instr.field 85 (.agg #[x, y]) 1).run Try.prog W = .ok y W := by
  have u := Try.underlying85
  have u3 := Try.isAgg3
  simp [Instr.field, go_sem, run_underlying u, u3, Result.andThen]
  rfl
theorem grown_transM {a b c : World} {g : Nat} (h : a.grownBy b (some g)) (k : b.grownBy c (some g)) : a.grownBy c (some g) :=
  ⟨k.os.trans h.os, k.tape.trans h.tape, k.output.trans h.output, Nat.le_trans h.size k.size, fun b hb hne => (k.block b (Nat.lt_of_lt_of_le hb h.size) hne).trans (h.block b hb hne)⟩
theorem own_rowM {w : World} {base n : Nat} {v : Value} {xs : List Value} (h : w.ownsRow base 3 1 v n xs) : ∃ a cap, v = .slice a n cap := by
  rcases h.2 with ⟨rfl, hn⟩ | ⟨g, cap, cur, rfl, _⟩
  · exact ⟨none, 0, by rw [hn]⟩
  · exact ⟨_, _, rfl⟩
theorem own_cellM {w : World} {base n j : Nat} {a : Option Addr} {cap : Nat} {l : List Nat} (h : w.ownsRow base 3 1 (.slice a n cap) n (ints (nats l))) (hl : l.length = n) (hj : j < n) : ∃ g, a = some ⟨g, 0, none⟩ ∧ base ≤ g ∧ g < w.heap.size ∧ w.cell? ⟨g, j, none⟩ = some (.int .i64 ((l.getD j 0 : Nat) : Int)) := by
  obtain ⟨g, cap', hv, hg0, hg1⟩ := h.form (by omega)
  cases hv
  refine ⟨g, rfl, hg0, hg1, ?_⟩
  rw [h.cellAt j (by omega), ints_get _ j (by rw [nats_len]; omega)]
  simp only [nats, List.getD_eq_getElem?_getD, List.getElem?_map]
  cases l[j]? <;> rfl
theorem take_key {f : Dem} {n j : Nat} (h : j < (f.keys n).length) : (f.keys n).take (j + 1) = (f.keys n).take j ++ [(f.keys n).getD j 0] := by
  rw [List.take_succ_eq_append_getElem h, Pf.getD_lt _ _ h]
theorem key_new {f : Dem} {n j : Nat} (h : j < (f.keys n).length) : (f.keys n).getD j 0 ∉ (f.keys n).take j := by
  intro hm
  obtain ⟨k, hk, e⟩ := List.getElem_of_mem hm
  simp at hk
  rw [List.getElem_take, Pf.getD_lt _ _ h] at e
  have := List.pairwise_iff_getElem.1 (keys_rise f n) k j (by omega) h (by omega)
  omega
theorem key_at {f : Dem} {n j : Nat} (h : j < (f.keys n).length) : (f.keys n).getD j 0 < n := by
  have : (f.keys n).getD j 0 ∈ f.keys n := by rw [Pf.getD_lt _ _ h]; exact List.getElem_mem h
  exact (mem_keys.1 this).1

set_option maxHeartbeats 4000000 in
set_option maxRecDepth 100000 in
theorem drop_any {w : World} {b n nn : Nat} {f : Dem} (h : MO w b n nn f) (hn : n ≤ 1000) (hnn : nn ≤ 1000000) :
    Calls Try.prog 58 #[.map (some b)] w fun e w' => e = .returned (.tuple #[]) ∧ MO w' b n nn f.asked ∧ w.grownBy w' (some b) := by
  have hbl := h.lt
  have t0 := tally0
  have HI := hide h.inside
  have HO := hide (inOrder_any h hnn)
  have HM0 := hide h
  have hkl := keys_len f n
  clear h
  go_enter Try.func58, Try.ntmps58
  go_wp2_with (go_at_call 59; refine HO.out.mono ?_; rintro e w1 ⟨v, rfl, hb1, own1⟩; obtain ⟨a, cap, rfl⟩ := own_rowM own1)
  have HOW := hide own1
  have hbm := hb1.block b hbl
  generalize hK : (f.keys n).length = K at *
  have HK := hide hK
  clear own1 HO hK
  go_loopw [3, 7] (fun _ s wr => ∃ j : Nat, s = .int .i64 j ∧ j ≤ K ∧ MO wr b n nn (f.less ((f.keys n).take j)) ∧ w1.grownBy wr (some b)) (fun _ s _ => K - (intOf s).toNat)
  case atStart => exact ⟨0, rfl, Nat.zero_le _, by rw [List.take_zero, less_nil]; exact HM0.out.keep hbm, World.grownBy.refl _ _⟩
  case round =>
    obtain ⟨j, rfl, hj, hmo, hgr⟩ := hrel
    by_cases hlt : j < K
    · obtain ⟨g, rfl, hg0, hg1, c1⟩ := own_cellM HOW.out HK.out hlt
      have c1' := (hgr.cell_far ⟨g, j, none⟩ hg1 (by simp; omega)).trans c1
      have hq := key_at (f := f) (n := n) (j := j) (by rw [HK.out]; exact hlt)
      have hnew := key_new (f := f) (n := n) (j := j) (by rw [HK.out]; exact hlt)
      have htk := take_key (f := f) (n := n) (j := j) (by rw [HK.out]; exact hlt)
      generalize (f.keys n).getD j 0 = q at *
      have j0 : (0 : Int) ≤ (j : Int) := by omega
      have j1 : (j : Int) < (K : Int) := by omega
      have hlk := hmo.look (i := q) (by omega)
      rw [less_get hnew] at hlk
      by_cases hz : (f.get q).1 = 0
      · rw [hz] at hlk
        have HF := hide (less_drop (l := (f.keys n).take j) hz)
        rw [← htk] at HF
        obtain ⟨D, hD, hdm⟩ := hmo
        have HDM := hide hdm
        have HGR := hide hgr
        generalize (f.get q).2 = y at hlk
        clear hdm hgr c1 hz hnew htk
        go_wp2_with (first
          | (at_delete; refine wpList_delete_own _ rfl _ _ 65 3 rfl 85 (int_keyed Try.underlying3) Try.underlying65 RT b nn D rfl hD _ _ rfl (ky_of (i := q) (by omega)) ?_; intro w2 hD2 hturn))
        have HD2 := hide hD2
        have HT := hide hturn.grown
        clear hD2 hturn hD hlk
        go_wp2_with fail
        go_roundw
        case rel => exact ⟨j + 1, by go_num, by omega, by rw [HF.out]; exact ⟨_, HD2.out, HDM.out.drop q⟩, grown_transM HGR.out HT.out⟩
        case measure => simp only [intOf]; omega
      · have HF := hide (less_keep (l := (f.keys n).take j) hz)
        rw [← htk] at HF
        have HMO := hide hmo
        have HGR := hide hgr
        have hxz : ((f.get q).1 == 0) = false := by simpa using hz
        generalize (f.get q).1 = x at *
        generalize (f.get q).2 = y at *
        clear hmo hgr c1 hz hnew htk
        go_wp2_with fail
        go_roundw
        case rel => exact ⟨j + 1, by go_num, by omega, by rw [HF.out]; exact HMO.out, HGR.out⟩
        case measure => simp only [intOf]; omega
    · have hje : j = K := by omega
      subst hje
      rw [← HK.out, List.take_length, less_all f n HI.out] at hmo
      have HMO := hide hmo
      have HGR := hide hgr
      clear hmo hgr
      go_wp2_with fail
      go_end0
      exact ⟨rfl, HMO.out, ⟨HGR.out.os.trans hb1.os, HGR.out.tape.trans hb1.tape, HGR.out.output.trans hb1.output, Nat.le_trans hb1.size HGR.out.size, fun k hk hne => (HGR.out.block k (Nat.lt_of_lt_of_le hk hb1.size) hne).trans (hb1.block k hk)⟩⟩
end Go.Proofs.Ytegonbilomcpkaa
