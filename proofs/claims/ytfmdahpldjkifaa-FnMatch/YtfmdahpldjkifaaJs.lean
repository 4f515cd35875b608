/-
  Draws of chapter 8: what fits of the model's cursor hands out: some lists of yes and no.
-/
import Derived.Test.YtfmdahpldjkifaaHs
import Derived.Test.YtfmdahpldjkifaaJc
import Derived.Deep.DeepCutAuto
namespace Go.Proofs.Ytfmdahpldjkifaa
open Go.RowKit

/-- One row of fits, apart from the list v that holds it. -/
def RowN (w0 w : World) (v : Value) (a : Option Addr) (xs : List Bool) : Prop := xs = [] ∨ ∃ b off, a = some ⟨b, off, none⟩ ∧ w0.heap.size ≤ b ∧ b < w.heap.size ∧ v.ownBlock ≠ some b ∧ ∀ j, j < xs.length → w.cell? ⟨b, off + j, none⟩ = some (.bool (xs.getD j false))
theorem RowN.row {w0 w : World} {v : Value} {a : Option Addr} {xs : List Bool} (h : RowN w0 w v a xs) : BRow w a xs := by
  rcases h with h | ⟨b, off, h1, _, h2, _, h3⟩
  · exact Or.inl h
  · exact Or.inr ⟨b, off, h1, h2, h3⟩
theorem RowN.keep {w0 w w' : World} {v v' : Value} {a : Option Addr} {xs : List Bool} (h : RowN w0 w v a xs) (hs : w.heap.size ≤ w'.heap.size) (hb : ∀ b, w0.heap.size ≤ b → b < w.heap.size → v.ownBlock ≠ some b → w'.heap[b]? = w.heap[b]?) (hv : ∀ b, b < w.heap.size → v.ownBlock ≠ some b → v'.ownBlock ≠ some b) : RowN w0 w' v' a xs := by
  rcases h with h | ⟨b, off, h1, h2, h3, h4, h5⟩
  · exact Or.inl h
  · exact Or.inr ⟨b, off, h1, h2, by omega, hv b h3 h4, fun j hj => (World.cell?_of_block (w := w) (a := ⟨b, off + j, none⟩) (hb b h2 h3 h4)).trans (h5 j hj)⟩
/-- A list of rows that grows. -/
def FO (w0 w : World) (v : Value) (k : Nat) (F : List (List Bool)) : Prop :=
  F.length = k ∧ ∃ vs : List Value, w.ownsRow w0.heap.size 34 1 v k vs ∧ ∀ i, i < k → ∃ ai ci, vs[i]? = some (.slice ai (F.getD i []).length ci) ∧ (F.getD i []).length ≤ ci ∧ RowN w0 w v ai (F.getD i [])
theorem FO.nil (w0 w : World) : FO w0 w (.slice none 0 0) 0 [] := ⟨rfl, [], World.ownsRow_nil _ _ _ _, fun _ hi => absurd hi (Nat.not_lt_zero _)⟩
theorem FO.kp {w0 w w' : World} {v : Value} {k c : Nat} {F : List (List Bool)} (h : FO w0 w v k F) (hk : Kp c w w') (hc : c < w0.heap.size) : FO w0 w' v k F := by
  obtain ⟨h1, vs, h2, h3⟩ := h
  refine ⟨h1, vs, own_kp h2 hk hc, fun i hi => ?_⟩
  obtain ⟨ai, ci, e1, e2, e3⟩ := h3 i hi
  exact ⟨ai, ci, e1, e2, e3.keep hk.size (fun b hb hl _ => hk.block b hl (by omega)) (fun b _ h => h)⟩
theorem FO.row {w0 w : World} {v : Value} {k : Nat} {F : List (List Bool)} (h : FO w0 w v k F) : ∃ a c, v = .slice a F.length c ∧ GRow w a F := by
  obtain ⟨h1, vs, h2, h3⟩ := h
  rcases h2.2 with ⟨rfl, h0⟩ | ⟨g, cap, cur, rfl, hb, hg, _⟩
  · subst h0
    exact ⟨none, 0, by rw [h1], Or.inl (List.length_eq_zero_iff.1 h1)⟩
  · refine ⟨some ⟨g, 0, none⟩, cap, by rw [h1], Or.inr ⟨g, 0, rfl, (Array.getElem?_eq_some_iff.1 hg).1, fun i hi => ?_⟩⟩
    obtain ⟨ai, ci, e1, _, e3⟩ := h3 i (by omega)
    exact ⟨ai, ci, by rw [Nat.zero_add, h2.cellAt i (by omega)]; exact e1, e3.row⟩
theorem push_row {w : World} {base n : Nat} {v u : Value} {xs : List Value} (hu : u.oneCell' = true) (hown : w.ownsRow base 34 1 v n xs) (hn : n ≤ 1000) (hb : base ≤ w.heap.size) :
    ∃ g cap w', (∀ ty, (Builtin.append_ #[23, 23] ty #[v, .slice (some ⟨w.heap.size, 0, none⟩) 1 1]).run Try.prog (w.alloc (.cells #[u] 34)) = .ok (.slice (some ⟨g, 0, none⟩) (n + 1) cap) w') ∧ w'.ownsRow base 34 1 (.slice (some ⟨g, 0, none⟩) (n + 1) cap) (n + 1) (xs ++ [u]) ∧ w.grownBy w' v.ownBlock ∧ (v.ownBlock = some g ∨ w.heap.size ≤ g) := by
  have h : (Try.prog.info? 34).map (fun i => (i.zero, i.size, i.bytes)) = some (some (.slice none 0 0), 1, 24) := by kernel_rfl
  obtain ⟨i0, hi, hzz⟩ := Option.map_eq_some_iff.1 h
  simp only [Prod.mk.injEq] at hzz
  obtain ⟨hz0, hz1, hz2⟩ := hzz
  obtain ⟨g, cap, w', h1, h2, h3, h4, _⟩ := run_append_lies (P := Try.prog) (w := w.alloc (.cells #[u] 34)) 23 0 base 34 i0 _ 1 24 Try.underlying23 hi hz0 hz1 hz2 rfl (by decide) v n xs (hown.alloc _) ⟨w.heap.size, 0, none⟩ 1 1 [u] rfl (fun j x hj => by
      have hj2 : j = 0 := by
        have := (List.getElem?_eq_some_iff.1 hj).1
        simp at this; omega
      subst hj2
      rw [add_plain']
      simp at hj; subst hj; simp) (fun x hx => by simp at hx; subst hx; exact hu) (by omega) (by unfold maxLen; omega) (by omega) (by simp; omega) _ rfl
  refine ⟨g, cap, w', fun _ => h1, h2, ?_, ?_⟩
  · have hg := World.grownBy_alloc w (.cells #[u] 34) v.ownBlock
    exact ⟨h3.os.trans hg.os, h3.tape.trans hg.tape, h3.output.trans hg.output, Nat.le_trans hg.size h3.size, fun b hb hne => (h3.block b (Nat.lt_of_lt_of_le hb hg.size) hne).trans (hg.block b hb hne)⟩
  · rcases h4 with h | h
    · exact Or.inl h
    · right; simp at h; omega
theorem push_bool {w : World} {base n : Nat} {v : Value} {xs : List Value} {x : Bool} (hown : w.ownsRow base 4 1 v n xs) (hn : n ≤ 1000) (hb : base ≤ w.heap.size) :
    ∃ v' w', (∀ ty, (Builtin.append_ #[34, 34] ty #[v, .slice (some ⟨w.heap.size, 0, none⟩) 1 1]).run Try.prog (w.alloc (.cells #[.bool x] 4)) = .ok v' w') ∧ w'.ownsRow base 4 1 v' (n + 1) (xs ++ [.bool x]) ∧ w.grownBy w' v.ownBlock := by
  have h : (Try.prog.info? 4).map (fun i => (i.zero, i.size, i.bytes)) = some (some (.bool false), 1, 1) := by kernel_rfl
  obtain ⟨i0, hi, hzz⟩ := Option.map_eq_some_iff.1 h
  simp only [Prod.mk.injEq] at hzz
  obtain ⟨hz0, hz1, hz2⟩ := hzz
  obtain ⟨v', w', h1, h2, h3⟩ := run_append_v (P := Try.prog) (w.alloc (.cells #[.bool x] 4)) base 34 0 4 i0 _ 1 Try.underlying34 hi hz0 hz1 hz2 rfl v n xs (hown.alloc _) (some ⟨w.heap.size, 0, none⟩) 1 1 [.bool x] rfl (vrow_new w _ 4) (fun u hu => by simp at hu; subst hu; rfl) (by unfold maxLen; omega) (by omega) (by simp; omega)
  refine ⟨v', w', fun _ => h1, h2, ?_⟩
  have hg := World.grownBy_alloc w (.cells #[.bool x] 4) v.ownBlock
  exact ⟨h3.os.trans hg.os, h3.tape.trans hg.tape, h3.output.trans hg.output, Nat.le_trans hg.size h3.size, fun b hb hne => (h3.block b (Nat.lt_of_lt_of_le hb hg.size) hne).trans (hg.block b hb hne)⟩
theorem bls_snoc (l : List Bool) (x : Bool) : bls (l ++ [x]) = bls l ++ [.bool x] := by simp [bls]
/-- The row that was made is put behind the others. -/
theorem FO.push {w0 w1 w : World} {v u : Value} {k m c : Nat} {F : List (List Bool)} {rs : List Bool} (h : FO w0 w1 v k F) (hk1 : Kp c w1 w) (hc : c < w0.heap.size) (hs0 : w0.heap.size ≤ w1.heap.size) (hr : w.ownsRow w1.heap.size 4 1 u m (bls rs)) (hm : rs.length = m) (hk : k ≤ 100) :
    ∃ v' w', (∀ ty, (Builtin.append_ #[23, 23] ty #[v, .slice (some ⟨w.heap.size, 0, none⟩) 1 1]).run Try.prog (w.alloc (.cells #[u] 34)) = .ok v' w') ∧ FO w0 w' v' (k + 1) (F ++ [rs]) ∧ w.grownBy w' v.ownBlock ∧ ∃ vs, w.ownsRow w0.heap.size 34 1 v k vs := by
  obtain ⟨h1, vs, h2, h3⟩ := h.kp hk1 hc
  have hv1 : ∀ b, v.ownBlock = some b → b < w1.heap.size := fun b hb => by
    obtain ⟨_, vs', h2', _⟩ := h
    exact (h2'.lt b hb).2
  have hsz := hk1.size
  obtain ⟨au, cu, hu, hcap, hrow⟩ : ∃ au cu, u = .slice au m cu ∧ m ≤ cu ∧ (rs = [] ∨ ∃ b, au = some ⟨b, 0, none⟩ ∧ w1.heap.size ≤ b ∧ b < w.heap.size ∧ ∀ j, j < rs.length → w.cell? ⟨b, 0 + j, none⟩ = some (.bool (rs.getD j false))) := by
    rcases hr.2 with ⟨rfl, h0⟩ | ⟨g, cap, cur, rfl, hb, hg, hcc, _⟩
    · subst h0; exact ⟨none, 0, rfl, Nat.le_refl _, Or.inl (List.length_eq_zero_iff.1 hm)⟩
    · refine ⟨_, _, rfl, hcc, Or.inr ⟨g, rfl, hb, (Array.getElem?_eq_some_iff.1 hg).1, fun j hj => ?_⟩⟩
      rw [Nat.zero_add, hr.cellAt j (by omega), bls_get rs j hj false]
  subst hu
  obtain ⟨g, cap, w', hrun, own', hg, hat⟩ := push_row (u := .slice au m cu) rfl h2 (by omega) (by omega)
  refine ⟨_, w', hrun, ⟨by simp [h1], _, own', fun i hi => ?_⟩, hg, vs, h2⟩
  have hvl : vs.length = k := by have := h2.1; omega
  have newv : ∀ b, b < w.heap.size → v.ownBlock ≠ some b → (Value.slice (some ⟨g, 0, none⟩) (k + 1) cap).ownBlock ≠ some b := fun b hb hne e => by
    have e' : g = b := by simpa [Value.ownBlock] using e
    subst e'
    rcases hat with e2 | e2
    · exact hne e2
    · omega
  by_cases e : i = k
  · subst e
    have e1 : (F ++ [rs]).getD i [] = rs := by simp [← h1]
    rw [e1]
    refine ⟨au, cu, by rw [List.getElem?_append_right (by omega), hvl, Nat.sub_self, hm]; rfl, by omega, ?_⟩
    have hR : RowN w0 w v au rs := by
      rcases hrow with hh | ⟨b, e2, hb1, hb2, hcl⟩
      · exact Or.inl hh
      · exact Or.inr ⟨b, 0, e2, by omega, hb2, fun e3 => by have := hv1 b e3; omega, hcl⟩
    exact hR.keep hg.size (fun b _ hl hne => hg.block b hl (fun e => hne e.symm)) newv
  · have hi' : i < k := by omega
    have e1 : (F ++ [rs]).getD i [] = F.getD i [] := by simp [List.getElem?_append, h1, hi']
    rw [e1]
    obtain ⟨ai, ci, q1, q2, q3⟩ := h3 i hi'
    exact ⟨ai, ci, by rw [List.getElem?_append_left (by omega)]; exact q1, q2, q3.keep hg.size (fun b _ hl hne => hg.block b hl (fun e => hne e.symm)) newv⟩
/-- The second row loses its first. -/
theorem FO.cut {w0 w : World} {g k cap : Nat} {F : List (List Bool)} (h : FO w0 w (.slice (some ⟨g, 0, none⟩) k cap) k F) (hk : 1 < k) {ai a' : Option Addr} {ci : Nat} (hc : w.cell? ⟨g, 1, none⟩ = some (.slice ai (F.getD 1 []).length ci)) (hl : 0 < (F.getD 1 []).length) {x : Value}
    (hx : x = .slice a' ((F.getD 1 []).length - 1) (ci - 1)) (ha' : 1 < ci → ∀ b off, ai = some ⟨b, off, none⟩ → a' = some ⟨b, off + 1, none⟩) : FO w0 (w.setCell ⟨g, 1, none⟩ x) (.slice (some ⟨g, 0, none⟩) k cap) k (F.set 1 (F.getD 1 []).tail) := by
  obtain ⟨h1, vs, h2, h3⟩ := h
  obtain ⟨st1, st2⟩ := h2.stored 1 x
  have hvl : vs.length = k := by have := h2.1; omega
  refine ⟨by simpa using h1, _, st1, fun i hi => ?_⟩
  have kp : ∀ {a xs}, RowN w0 w (.slice (some ⟨g, 0, none⟩) k cap) a xs → RowN w0 (w.setCell ⟨g, 1, none⟩ x) (.slice (some ⟨g, 0, none⟩) k cap) a xs := fun hr => hr.keep (by simp) (fun b _ hl hne => st2.block b hl (by intro e; exact hne (by simpa [Value.ownBlock] using e.symm))) (fun b _ h => h)
  by_cases e : i = 1
  · subst e
    obtain ⟨ai', ci', q1, q2, q3⟩ := h3 1 hi
    have hc2 := h2.cellAt 1 (by omega)
    rw [hc, q1] at hc2
    simp only [Option.some.injEq, Value.slice.injEq] at hc2
    obtain ⟨rfl, _, rfl⟩ := hc2
    have e1 : (F.set 1 (F.getD 1 []).tail).getD 1 [] = (F.getD 1 []).tail := by simp [show 1 < F.length by omega]
    rw [e1]
    refine ⟨_, ci - 1, by rw [List.getElem?_set_self (by omega), hx, List.length_tail], by rw [List.length_tail]; omega, ?_⟩
    by_cases hz : (F.getD 1 []).tail = []
    · exact Or.inl hz
    · have hlt : 1 < (F.getD 1 []).length := by
        have : (F.getD 1 []).tail.length ≠ 0 := fun e => hz (List.length_eq_zero_iff.1 e)
        rw [List.length_tail] at this; omega
      rcases kp q3 with h0 | ⟨b, off, rfl, b1, b2, b3, b4⟩
      · rw [h0] at hlt; simp at hlt
      · refine Or.inr ⟨b, off + 1, ha' (by omega) b off rfl, b1, b2, b3, fun j hj => ?_⟩
        rw [List.length_tail] at hj
        have := b4 (j + 1) (by omega)
        rw [show off + (j + 1) = off + 1 + j by omega] at this
        rw [this]
        simp
  · obtain ⟨ai', ci', q1, q2, q3⟩ := h3 i hi
    have e1 : (F.set 1 (F.getD 1 []).tail).getD i [] = F.getD i [] := by simp [Ne.symm e]
    rw [e1]
    exact ⟨ai', ci', by rw [List.getElem?_set_ne (by omega)]; exact q1, q2, kp q3⟩
theorem cur_kp8 {w w3 w4 : World} {c len cap N : Nat} {a : Option Addr} {v : Value} {k : Nat} {vs : List Value} {e s : Nat} (hc : Cur w3 c a len cap N) (hcw : c < w.heap.size) (hold : ∀ b off, a = some ⟨b, off, none⟩ → 0 < len → b < w.heap.size) (hs : w.heap.size ≤ w3.heap.size) (own : w3.ownsRow w.heap.size e s v k vs) (hg : w3.grownBy w4 v.ownBlock) : Cur w4 c a len cap N := cur_push hc hcw hold hs own hg
def FTPost (w : World) (c : Nat) (a : Option Addr) (len cap M : Nat) (e : Ending) (w' : World) : Prop :=
  ∃ v F, e = .returned v ∧ F.length ≤ 9 ∧ (∀ i, (F.getD i []).length ≤ 6) ∧ FO w w' v F.length F ∧ Cur w' c a len cap M ∧ Kp c w w'
theorem row_bd {F : List (List Bool)} {rs : List Bool} (h : ∀ i, (F.getD i []).length ≤ 6) (hr : rs.length ≤ 6) : ∀ i, ((F ++ [rs]).getD i []).length ≤ 6 := fun i => by
  by_cases hi : i < F.length
  · have : (F ++ [rs]).getD i [] = F.getD i [] := by simp [List.getElem?_append, hi]
    rw [this]; exact h i
  · by_cases he : i = F.length
    · subst he; simpa using hr
    · have : (F ++ [rs]).getD i [] = [] := by rw [List.getD_eq_getElem?_getD, List.getElem?_eq_none (by simp; omega)]; rfl
      rw [this]; simp
theorem cut_bd {F : List (List Bool)} (h : ∀ i, (F.getD i []).length ≤ 6) : ∀ i, ((F.set 1 (F.getD 1 []).tail).getD i []).length ≤ 6 := fun i => by
  by_cases e : i = 1
  · subst e
    by_cases hl : 1 < F.length
    · have : (F.set 1 (F.getD 1 []).tail).getD 1 [] = (F.getD 1 []).tail := by simp [hl]
      rw [this, List.length_tail]; have := h 1; omega
    · simp [show F.length ≤ 1 by omega]
  · have : (F.set 1 (F.getD 1 []).tail).getD i [] = F.getD i [] := by simp [Ne.symm e]
    rw [this]; exact h i
set_option maxRecDepth 20000 in
set_option maxHeartbeats 4000000 in
theorem fits_any {c len cap N : Nat} {a : Option Addr} {w : World} (hc : Cur w c a len cap N) (hN : N ≤ 700000000) :
    Calls Try.prog 35 #[.pointer (some ⟨c, 0, none⟩)] w (FTPost w c a len cap (N + 300)) := by
  have hcw := hc.1
  have HOLD := hide hc.old
  have HC := hide hc
  clear hc
  go_enter Try.func35, Try.ntmps35
  go_wp2_with fail
  refine (pick_any 6 (by omega) HC.out (by omega)).mono ?_
  rintro e w1 ⟨r1, rfl, p0, p1, hc1, hk1⟩
  have HC1 := hide hc1
  have HK1 := hide hk1
  clear hc1 hk1
  go_wp2_with fail
  refine (pick_any 6 (by omega) HC1.out (by omega)).mono ?_
  rintro e w2 ⟨r2, rfl, p2, p3, hc2, hk2⟩
  obtain ⟨m, rfl⟩ := Int.eq_ofNat_of_zero_le p2
  have hm : m ≤ 6 := by omega
  have HC2 := hide hc2
  have HK2 := hide (HK1.out.trans hk2)
  clear hc2 hk2 p3
  go_upto_if 13 with (go_at_call 36; refine (one_any 20 (by omega) HC2.out (by omega)).mono ?_; rintro e w3 ⟨r3, rfl, hc3, hk3⟩; have HC3 := hide hc3; have HK3 := hide (HK2.out.trans hk3); clear hc3 hk3)
  go_cut [3] (fun s3 wc => ∃ k : Nat, s3 = .int .i64 k ∧ k ≤ 9 ∧ Hid (Cur wc c a len cap (N + 8)) ∧ Hid (Kp c w wc))
  case first =>
    cases r3
    · go_wp2_with fail
      go_meet
      case rel => exact ⟨r1.toNat, by congr 1; omega, by omega, hide (HC3.out.le (by omega)), HK3⟩
    · go_wp2_with fail
      refine (pick_any 2 (by omega) HC3.out (by omega)).mono ?_
      rintro e w4 ⟨z, rfl, z0, z1, hc4, hk4⟩
      have HK4 := hide (HK3.out.trans hk4)
      have HC4 := hide hc4
      clear hc4 hk4
      go_wp2_with fail
      go_meet
      case rel => exact ⟨(8 + z).toNat, by congr 1; omega, by omega, hide (HC4.out.le (by omega)), HK4⟩
  case rest =>
    obtain ⟨k0, rfl, hk0, HC4, HK4⟩ := hcut
    go_wp2_with fail
    go_loopw [3, 5, 6, 7] (fun s v _ _ wr => ∃ (k : Nat) (F : List (List Bool)), s = .int .i64 k ∧ F.length + k ≤ 9 ∧ Hid (∀ i, (F.getD i []).length ≤ 6) ∧ Hid (FO w wr v F.length F) ∧ Hid (Cur wr c a len cap (N + 8 + 20 * F.length)) ∧ Hid (Kp c w wr) ∧ Hid (∀ i, i < F.length → (F.getD i []).length = m)) (fun s _ _ _ _ => (intOf s).toNat)
    case atStart => exact ⟨k0, [], rfl, by simp; omega, hide (by simp), hide (FO.nil _ _), hide (HC4.out.le (by simp)), HK4, hide (by simp)⟩
    case round =>
      obtain ⟨k, F, rfl, hlen, HBD, HF, HCR, HKR, HEQ⟩ := hrel
      by_cases hk : 0 < k
      · have k1 : (0 : Int) < (k : Int) := by omega
        obtain ⟨W1, hW1⟩ : ∃ W1 : World, W1 = wr := ⟨_, rfl⟩
        subst hW1
        go_wp2_with fail
        go_loopw [6, 7] (fun u s wr => ∃ (j : Nat) (rs : List Bool), s = .int .i64 j ∧ j ≤ m ∧ rs.length = j ∧ Hid (wr.ownsRow W1.heap.size 4 1 u j (bls rs)) ∧ Hid (Cur wr c a len cap (N + 8 + 20 * F.length + 2 * j)) ∧ Hid (Kp c W1 wr)) (fun _ s _ => m - (intOf s).toNat)
        case atStart => exact ⟨0, [], rfl, Nat.zero_le _, rfl, hide (World.ownsRow_nil _ _ _ _), hide (HCR.out.le (by omega)), hide (Kp.refl _ _)⟩
        case round =>
          obtain ⟨j, rs, rfl, hj, hrs, HU, HCJ, HKJ⟩ := hrel
          have hsW := HKR.out.size
          have hcW : c < W1.heap.size := by omega
          by_cases hjm : j < m
          · have j1 : (j : Int) < (m : Int) := by omega
            go_wp2_with fail
            refine (one_any 3 (by omega) HCJ.out (by omega)).mono ?_
            rintro e w3 ⟨r3, rfl, hc3, hk3⟩
            have own3 := own_kp HU.out hk3 hcW
            have HK3 := hide (HKJ.out.trans hk3)
            have HC3 := hide hc3
            obtain ⟨v4, w4, hr4, own4, hg4⟩ := push_bool (x := r3) own3 (by omega) HK3.out.size
            rw [← bls_snoc] at own4
            have HO4 := hide own4
            have HK4' := hide (kp_push HK3.out own3 hg4)
            have HC4' := hide (cur_push HC3.out hcW (fun b off e hl => by have := HOLD.out b off e hl; omega) HK3.out.size own3 hg4)
            clear hc3 hk3 own3 own4 hg4 HU HCJ HKJ
            go_wp2_with (first | (at_builtin; refine Lib.wpList_append_run _ rfl _ _ _ _ rfl _ _ rfl rfl _ _ (hr4 _) ?_))
            go_roundw
            case rel => exact ⟨j + 1, rs ++ [r3], by go_num, by omega, by simp [hrs], HO4, hide (HC4'.out.le (by omega)), HK4'⟩
            case measure => simp only [intOf]; omega
          · have j1 : ¬ (j : Int) < (m : Int) := by omega
            obtain ⟨au, cu, hu⟩ := own_form HU.out
            subst hu
            obtain ⟨v5, w5, hr5, hF5, hg5, vs5, own5⟩ := HF.out.push HKJ.out hcw hsW HU.out hrs (by omega)
            have HF5 := hide hF5
            have hkk := HKR.out.trans HKJ.out
            have HK5 := hide (kp_push hkk own5 hg5)
            have HC5 := hide (cur_push HCJ.out hcw HOLD.out hkk.size own5 hg5)
            have HBD5 := hide (row_bd (rs := rs) HBD.out (by omega))
            have HEQ5 : Hid (∀ i, i < (F ++ [rs]).length → ((F ++ [rs]).getD i []).length = m) := hide fun i hi => by
              by_cases e : i = F.length
              · subst e; simp; omega
              · have hi' : i < F.length := by simp at hi; omega
                have : (F ++ [rs]).getD i [] = F.getD i [] := by simp [List.getElem?_append, hi']
                rw [this]; exact HEQ.out i hi'
            clear hF5 hg5 own5 hkk
            go_wp2_with (first | (at_builtin; refine Lib.wpList_append_run _ rfl _ _ _ _ rfl _ _ rfl rfl _ _ (hr5 _) ?_))
            go_roundw
            case rel => exact ⟨k - 1, F ++ [rs], by congr 1; omega, by simp; omega, HBD5, by rw [List.length_append]; exact HF5, hide (HC5.out.le (by simp; omega)), HK5, HEQ5⟩
            case measure => simp only [intOf]; omega
      · have k1 : ¬ (0 : Int) < (k : Int) := by omega
        obtain ⟨av, cv, rfl, _⟩ := HF.out.row
        by_cases hl1 : 1 < F.length
        · have z1 : (1 : Int) < (F.length : Int) := by omega
          by_cases hm0 : 0 < m
          · have z2 : (0 : Int) < (m : Int) := by omega
            go_wp2_with fail
            refine (one_any 30 (by omega) HCR.out (by omega)).mono ?_
            rintro e w3 ⟨r3, rfl, hc3, hk3⟩
            have HF3 := hide (HF.out.kp hk3 hcw)
            have HC3 := hide hc3
            have HK3 := hide (HKR.out.trans hk3)
            clear hc3 hk3 HF HCR HKR
            cases r3
            · go_wp2_with fail
              go_ret
              exact ⟨_, F, rfl, by omega, HBD.out, HF3.out, HC3.out.le (by omega), HK3.out⟩
            · obtain ⟨_, vs, own3, hrow3⟩ := HF3.out
              obtain ⟨g, cap', e1, hg0, hg1⟩ := own_some own3 (by omega)
              cases e1
              obtain ⟨ai, ci, q1, q2, _⟩ := hrow3 1 hl1
              have c1 := own3.cellAt 1 (by omega)
              rw [q1] at c1
              have f1 := own3.frozenAt 1
              have hr1 := HEQ.out 1 hl1
              rw [hr1] at c1 q2
              have HCut := hide fun (x : Value) (a' : Option Addr) (hx : x = .slice a' (m - 1) (ci - 1)) (ha' : 1 < ci → ∀ b off, ai = some ⟨b, off, none⟩ → a' = some ⟨b, off + 1, none⟩) => HF3.out.cut hl1 (show w3.cell? ⟨g, 1, none⟩ = some (.slice ai (F.getD 1 []).length ci) from hr1.symm ▸ c1) (by omega) (show x = .slice a' ((F.getD 1 []).length - 1) (ci - 1) from hr1.symm ▸ hx) ha'
              have z3 : (1 : Int) ≤ (m : Int) := by omega
              have z4 : (1 : Int) ≤ (ci : Int) := by omega
              have HBD2 := hide (cut_bd HBD.out)
              have hsz : w.heap.size ≤ g := hg0
              clear own3 hrow3 q1 hr1
              by_cases hci : ci = 1
              · subst hci
                obtain rfl : m = 1 := by omega
                have HX : Hid (FO w (w3.setCell ⟨g, 1, none⟩ (.slice ai 0 0)) (.slice (some ⟨g, 0, none⟩) F.length cv) F.length (F.set 1 (F.getD 1 []).tail)) := hide (HCut.out (.slice ai 0 0) ai rfl (fun h => by omega))
                go_wp2_with fail
                go_ret
                exact ⟨.slice (some ⟨g, 0, none⟩) F.length cv, _, rfl, by simp; omega, HBD2.out, by rw [List.length_set]; exact HX.out, (cur_set HC3.out hcw HOLD.out hsz).le (by omega), kp_set HK3.out hsz⟩
              · have HX := hide (HCut.out _ (Option.map (fun x : Addr => ({ block := x.block, off := x.off + 1, spot := none } : Addr)) ai) rfl (fun _ b off e => by rw [e]; rfl))
                go_wp2_with fail
                go_ret
                exact ⟨.slice (some ⟨g, 0, none⟩) F.length cv, _, rfl, by simp; omega, HBD2.out, by rw [List.length_set]; exact HX.out, (cur_set HC3.out hcw HOLD.out hsz).le (by omega), kp_set HK3.out hsz⟩
          · have z2 : ¬ (0 : Int) < (m : Int) := by omega
            go_wp2_with fail
            go_ret
            exact ⟨_, F, rfl, by omega, HBD.out, HF.out, HCR.out.le (by omega), HKR.out⟩
        · have z1 : ¬ (1 : Int) < (F.length : Int) := by omega
          go_wp2_with fail
          go_ret
          exact ⟨_, F, rfl, by omega, HBD.out, HF.out, HCR.out.le (by omega), HKR.out⟩
end Go.Proofs.Ytfmdahpldjkifaa
