/-
  What AddProfiles answers at any two profiles, the program's and the model's.
-/
import Derived.Test.YtegonbilomcpkaaMu
namespace Go.Proofs.Ytegonbilomcpkaa
open Go.RowKit Go.Maps Go.Sort

set_option maxRecDepth 100000 in
set_option maxHeartbeats 2000000 in
theorem sap_bad1 {a b a' b' : Option Addr} {n m c d n' m' c' d' : Nat} {ps fs : List Int} {w : World} (hn : ps.length = n) (hm : fs.length = m) (ha : ARow w a ps) (hb : ARow w b fs) (hg : Pf.goodP ps fs = false) :
    Calls Try.prog 16 #[.agg #[.slice a n c, .slice b m d], .agg #[.slice a' n' c', .slice b' m' d']] w fun e w' => e = .returned (.tuple #[.agg #[.slice none 0 0, .slice none 0 0], .bool false]) ∧ Below w.heap.size w w' := by
  have HA := hide ha
  have HB := hide hb
  have HG := hide hg
  have HN := hide hn
  have HM := hide hm
  clear ha hb hg hn hm
  go_enter Try.func16, Try.ntmps16
  go_wp2_with ((go_at_call 17; refine (sgp_n HN HM HA HB HG (below3 _ _ _ _)).mono ?_; rintro e w1 ⟨rfl, hb1⟩; obtain ⟨p0, p1, p2, p3, p4, p5, ⟨f0, f1⟩, hB1, z1⟩ := (PV2.new w _ _ _ _ _ _ _).below hb1))
  exact bodyPost_ret (v := .tuple #[.agg #[.slice none 0 0, .slice none 0 0], .bool false]) (by simp [results, Try.results16, go_sem, p4, p5]) rfl ⟨rfl, (hB1.setCell (by show w.heap.size ≤ w.heap.size + 1 + 1; omega) _).setCell (by show w.heap.size ≤ w.heap.size + 1 + 1; omega) _⟩
set_option maxRecDepth 100000 in
set_option maxHeartbeats 2000000 in
theorem sap_bad2 {a b a' b' : Option Addr} {n m c d n' m' c' d' : Nat} {ps fs ps' fs' : List Int} {w : World} (hn : ps.length = n) (hm : fs.length = m) (ha : ARow w a ps) (hb : ARow w b fs) (hg : Pf.goodP ps fs = true)
    (hn' : ps'.length = n') (hm' : fs'.length = m') (ha' : ARow w a' ps') (hb' : ARow w b' fs') (hg' : Pf.goodP ps' fs' = false) :
    Calls Try.prog 16 #[.agg #[.slice a n c, .slice b m d], .agg #[.slice a' n' c', .slice b' m' d']] w fun e w' => e = .returned (.tuple #[.agg #[.slice none 0 0, .slice none 0 0], .bool false]) ∧ Below w.heap.size w w' := by
  have HA := hide ha
  have HB := hide hb
  have HG := hide hg
  have HN := hide hn
  have HM := hide hm
  have HA' := hide ha'
  have HB' := hide hb'
  have HG' := hide hg'
  have HN' := hide hn'
  have HM' := hide hm'
  clear ha hb hg hn hm ha' hb' hg' hn' hm'
  go_enter Try.func16, Try.ntmps16
  go_wp2_with (first
    | (go_at_call_of 17 (Value.agg #[Value.slice a n c, Value.slice b m d]); refine (sgp_n HN HM HA HB HG (below3 _ _ _ _)).mono ?_; rintro e w1 ⟨rfl, hb1⟩; obtain ⟨p0, p1, p2, p3, p4, p5, ⟨f0, f1⟩, hB1, z1⟩ := (PV2.new w _ _ _ _ _ _ _).below hb1)
    | (go_at_call 17; refine (sgp_n HN' HM' HA' HB' HG' hB1).mono ?_; rintro e w2 ⟨rfl, hb2⟩; obtain ⟨r0, r1, r2, r3, r4, r5, ⟨g0, g1⟩, hB2, z2⟩ := PV2.below ⟨p0, p1, p2, p3, p4, p5, ⟨f0, f1⟩, hB1, z1⟩ hb2))
  exact bodyPost_ret (v := .tuple #[.agg #[.slice none 0 0, .slice none 0 0], .bool false]) (by simp [results, Try.results16, go_sem, r4, r5]) rfl ⟨rfl, (hB2.setCell (by show w.heap.size ≤ w.heap.size + 1 + 1; omega) _).setCell (by show w.heap.size ≤ w.heap.size + 1 + 1; omega) _⟩
set_option maxRecDepth 100000 in
set_option maxHeartbeats 2000000 in
theorem sap_ne {a b a' b' : Option Addr} {n m c d n' m' c' d' : Nat} {ps fs ps' fs' : List Int} {w : World} (hn : ps.length = n) (hm : fs.length = m) (ha : ARow w a ps) (hb : ARow w b fs) (hg : Pf.goodP ps fs = true)
    (hn' : ps'.length = n') (hm' : fs'.length = m') (ha' : ARow w a' ps') (hb' : ARow w b' fs') (hg' : Pf.goodP ps' fs' = true) (hne : n ≠ n') :
    Calls Try.prog 16 #[.agg #[.slice a n c, .slice b m d], .agg #[.slice a' n' c', .slice b' m' d']] w fun e w' => e = .returned (.tuple #[.agg #[.slice none 0 0, .slice none 0 0], .bool false]) ∧ Below w.heap.size w w' := by
  have HA := hide ha
  have HB := hide hb
  have HG := hide hg
  have HN := hide hn
  have HM := hide hm
  have HA' := hide ha'
  have HB' := hide hb'
  have HG' := hide hg'
  have HN' := hide hn'
  have HM' := hide hm'
  have hz : ((n : Int) != (n' : Int)) = true := by simp; omega
  have hz' : ¬ (n : Int) = (n' : Int) := by omega
  clear ha hb hg hn hm ha' hb' hg' hn' hm'
  go_enter Try.func16, Try.ntmps16
  go_wp2_with (first
    | (go_at_call_of 17 (Value.agg #[Value.slice a n c, Value.slice b m d]); refine (sgp_n HN HM HA HB HG (below3 _ _ _ _)).mono ?_; rintro e w1 ⟨rfl, hb1⟩; obtain ⟨p0, p1, p2, p3, p4, p5, ⟨f0, f1⟩, hB1, z1⟩ := (PV2.new w _ _ _ _ _ _ _).below hb1)
    | (go_at_call 17; refine (sgp_n HN' HM' HA' HB' HG' hB1).mono ?_; rintro e w2 ⟨rfl, hb2⟩; obtain ⟨r0, r1, r2, r3, r4, r5, ⟨g0, g1⟩, hB2, z2⟩ := PV2.below ⟨p0, p1, p2, p3, p4, p5, ⟨f0, f1⟩, hB1, z1⟩ hb2))
  exact bodyPost_ret (v := .tuple #[.agg #[.slice none 0 0, .slice none 0 0], .bool false]) (by simp [results, Try.results16, go_sem, r4, r5]) rfl ⟨rfl, (hB2.setCell (by show w.heap.size ≤ w.heap.size + 1 + 1; omega) _).setCell (by show w.heap.size ≤ w.heap.size + 1 + 1; omega) _⟩

/-- Whether two profiles have a sum. -/
def addB (pa fa pb fb : List Int) : Bool := Pf.goodP pa fa && (Pf.goodP pb fb && (decide (pa.length = pb.length) && Pf.goodP (sumL pa pb) (sumL fa fb)))
def addP (pa fa pb fb : List Int) : List Int := if addB pa fa pb fb = true then sumL pa pb else []
def addFl (pa fa pb fb : List Int) : List Int := if addB pa fa pb fb = true then sumL fa fb else []
def addN (pa fa pb fb : List Int) : Nat := if addB pa fa pb fb = true then pa.length else 0
theorem addP_len (pa fa pb fb : List Int) : (addP pa fa pb fb).length = addN pa fa pb fb := by
  unfold addP addN; split
  · exact sumL_len _ _
  · rfl
theorem addFl_len (pa fa pb fb : List Int) : (addFl pa fa pb fb).length = addN pa fa pb fb := by
  unfold addFl addN; split
  · rename_i h
    rw [sumL_len]
    simp only [addB, Bool.and_eq_true] at h
    exact (Pf.goodP_len h.1).1.symm
  · rfl
theorem addN_le (pa fa pb fb : List Int) : addN pa fa pb fb ≤ 12 := by
  unfold addN; split
  · rename_i h
    simp only [addB, Bool.and_eq_true] at h
    exact (Pf.goodP_len h.1).2
  · omega
/-- The answer of a call: two lists of its own, apart. -/
def Ans2 (pa fa pb fb : List Int) (W : World) (e : Ending) (w' : World) : Prop :=
  ∃ v1 v2, e = .returned (.tuple #[.agg #[v1, v2], .bool (addB pa fa pb fb)]) ∧ Below W.heap.size W w' ∧ w'.ownsRow W.heap.size 3 1 v1 (addN pa fa pb fb) (ints (addP pa fa pb fb)) ∧ w'.ownsRow W.heap.size 3 1 v2 (addN pa fa pb fb) (ints (addFl pa fa pb fb)) ∧ ∀ g, v1.ownBlock = some g → v2.ownBlock ≠ some g
theorem ans_no {pa fa pb fb : List Int} {W w' : World} {e : Ending} (h : addB pa fa pb fb = false) (he : e = .returned (.tuple #[.agg #[.slice none 0 0, .slice none 0 0], .bool false])) (hb : Below W.heap.size W w') : Ans2 pa fa pb fb W e w' := by
  have h1 : addP pa fa pb fb = [] := by unfold addP; rw [h]; rfl
  have h2 : addFl pa fa pb fb = [] := by unfold addFl; rw [h]; rfl
  have h3 : addN pa fa pb fb = 0 := by unfold addN; rw [h]; rfl
  unfold Ans2
  rw [h, h1, h2, h3]
  exact ⟨_, _, he, hb, World.ownsRow_nil _ _ _ _, World.ownsRow_nil _ _ _ _, fun g hg => by cases hg⟩
theorem ans_yes {pa fa pb fb : List Int} {W w' : World} {e : Ending} {n : Nat} {v1 v2 : Value} (h : addB pa fa pb fb = true) (hn : pa.length = n) (he : e = .returned (.tuple #[.agg #[v1, v2], .bool true])) (hb : Below W.heap.size W w') (o1 : w'.ownsRow W.heap.size 3 1 v1 n (ints (sumL pa pb))) (o2 : w'.ownsRow W.heap.size 3 1 v2 n (ints (sumL fa fb))) (hne : ∀ g, v1.ownBlock = some g → v2.ownBlock ≠ some g) : Ans2 pa fa pb fb W e w' := by
  have h1 : addP pa fa pb fb = sumL pa pb := by unfold addP; rw [if_pos h]
  have h2 : addFl pa fa pb fb = sumL fa fb := by unfold addFl; rw [if_pos h]
  have h3 : addN pa fa pb fb = n := by unfold addN; rw [if_pos h, hn]
  unfold Ans2
  rw [h, h1, h2, h3]
  exact ⟨_, _, he, hb, o1, o2, hne⟩

theorem ap_any {a b a' b' : Option Addr} {c d c' d' : Nat} {pa fa pb fb : List Int} {w : World} (ha : ARow w a pa) (hb : ARow w b fa) (ha' : ARow w a' pb) (hb' : ARow w b' fb) :
    Calls Try.prog 12 #[.agg #[.slice a pa.length c, .slice b fa.length d], .agg #[.slice a' pb.length c', .slice b' fb.length d']] w (Ans2 pa fa pb fb w) := by
  cases hg : Pf.goodP pa fa
  · exact (ap_bad1 rfl rfl ha hb hg).mono fun e w' ⟨he, hB⟩ => ans_no (by simp [addB, hg]) he hB
  · cases hg' : Pf.goodP pb fb
    · exact (ap_bad2 rfl rfl ha hb hg rfl rfl ha' hb' hg').mono fun e w' ⟨he, hB⟩ => ans_no (by simp [addB, hg']) he hB
    · by_cases hl : pa.length = pb.length
      · have h1 := (Pf.goodP_len hg).1
        have h2 := (Pf.goodP_len hg').1
        have := ap_good (c := c) (d := d) (c' := c') (d' := d') (n := pa.length) rfl h1.symm ha hb hg hl.symm (by omega) ha' hb' hg'
        rw [← h1, ← h2, ← hl]
        refine this.mono fun e w' ⟨hB, h⟩ => ?_
        rcases h with ⟨hs, he⟩ | ⟨hs, x, y, he, hxy, o1, o2⟩
        · exact ans_no (by simp [addB, hs]) he hB
        · exact ans_yes (by simp [addB, hg, hg', hl, hs]) rfl he hB o1 o2 (fun g h1 h2 => by cases h1; cases h2; exact hxy rfl)
      · exact (ap_ne rfl rfl ha hb hg rfl rfl ha' hb' hg' hl).mono fun e w' ⟨he, hB⟩ => ans_no (by simp [addB, hl]) he hB
theorem sap_any {a b a' b' : Option Addr} {c d c' d' : Nat} {pa fa pb fb : List Int} {w : World} (ha : ARow w a pa) (hb : ARow w b fa) (ha' : ARow w a' pb) (hb' : ARow w b' fb) :
    Calls Try.prog 16 #[.agg #[.slice a pa.length c, .slice b fa.length d], .agg #[.slice a' pb.length c', .slice b' fb.length d']] w (Ans2 pa fa pb fb w) := by
  cases hg : Pf.goodP pa fa
  · exact (sap_bad1 rfl rfl ha hb hg).mono fun e w' ⟨he, hB⟩ => ans_no (by simp [addB, hg]) he hB
  · cases hg' : Pf.goodP pb fb
    · exact (sap_bad2 rfl rfl ha hb hg rfl rfl ha' hb' hg').mono fun e w' ⟨he, hB⟩ => ans_no (by simp [addB, hg']) he hB
    · by_cases hl : pa.length = pb.length
      · have h1 := (Pf.goodP_len hg).1
        have h2 := (Pf.goodP_len hg').1
        have := sap_good (c := c) (d := d) (c' := c') (d' := d') (n := pa.length) rfl h1.symm ha hb hg hl.symm (by omega) ha' hb' hg'
        rw [← h1, ← h2, ← hl]
        refine this.mono fun e w' ⟨hB, h⟩ => ?_
        rcases h with ⟨hs, he⟩ | ⟨hs, v1, v2, he, hne, o1, o2⟩
        · exact ans_no (by simp [addB, hs]) he hB
        · exact ans_yes (by simp [addB, hg, hg', hl, hs]) rfl he hB o1 o2 hne
      · exact (sap_ne rfl rfl ha hb hg rfl rfl ha' hb' hg' hl).mono fun e w' ⟨he, hB⟩ => ans_no (by simp [addB, hl]) he hB
end Go.Proofs.Ytegonbilomcpkaa
