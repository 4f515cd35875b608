/-
  In one: Kv16, Kw16, Kx16, Ky16, Kz16, La16, Op, Of10, Oj16, Lb16.
-/
import Derived.Test.YtnjkdfeajlnojaaZ6
import Derived.Test.YtnjkdfeajlnojaaZ2
import Derived.ChangeSlices
import Derived.ProofKit
import Derived.OpenShut
import Derived.ChangeOld
import Derived.Below
import Derived.Deep.SlicePairs
import Derived.Test.YtnjkdfeajlnojaaZ3
namespace Go.Proofs.Ytnjkdfeajlnojaa
open Go.RowKit

/-- The answer has been put into its variable. -/
theorem sdo_fin {w3 : World} {lo K R : Nat} {E : Nat → Prop} {a b l m : Value} {y : Jb.J} (hj : JP w3 lo E K a b l m y) (hE : E R) :
    JR (put5 w3 R a b l m (.int .i64 y.f)) lo (put5 w3 R a b l m (.int .i64 y.f)).heap.size (.agg #[a, b, l, m, .int .i64 y.f]) y :=
  (((((hj.other (D := R) (k := 0) (u := a) hE).other (D := R) (k := 1) (u := b) hE).other (D := R) (k := 2) (u := l) hE).other (D := R) (k := 3) (u := m) hE).other (D := R) (k := 4) (u := .int .i64 y.f) hE).jr
theorem arow_own16 {w : World} {lo n c : Nat} {a : Option Addr} {xs : List Int} (h : w.ownsRow lo 3 1 (.slice a n c) n (ints xs)) : ARow w a xs := by
  have hl : xs.length = n := by have := h.1; rw [ints_len] at this; omega
  obtain ⟨a', c', e, hr⟩ := own_row hl h
  cases e
  exact hr
/-- Other moves to come, of their own, are put into the job. -/
theorem JP.planned {w1 w5 : World} {lo B : Nat} {E : Nat → Prop} {a b l m v : Value} {x : Jb.J} {L' : List (Int × Int)} (h1 : JP w1 lo E B a b l m x) (hb : Below w1.heap.size w1 w5) (ho : w5.ownsRow w1.heap.size 41 2 v L'.length (mce L')) :
    JP (w5.setCell ⟨B, 2, none⟩ v) lo E B a b v m { x with L := L' } ∧ ∃ p c, v = .slice p L'.length c := by
  have hlt : ∀ g, v.ownBlock = some g → w1.heap.size ≤ g := fun g e => (ho.lt g e).1
  have hlb : ∀ g, moB v L'.length = some g → w1.heap.size ≤ g := fun g e => hlt g (moB_own e)
  have hlo1 : lo ≤ w1.heap.size := Nat.le_trans h1.lob (Nat.le_of_lt h1.jw.lt)
  refine ⟨(h1.below hb).left (l' := v) (L' := L') (lv_own (owns_low ho hlo1)) (fun e => ?_) (fun g e e' => ?_) (fun g e e' => ?_) (fun g e e' => ?_) (fun g e hE => ?_), own_f16 ho⟩
  · have := hlb B e; have := h1.jw.lt; omega
  · have := hlb g e'; have := (h1.oa.lt g e).2; omega
  · have := hlb g e'; have := (h1.ob.lt g e).2; omega
  · have := hlb g e; have := (h1.om.lt g e').2; omega
  · have := hlb g e; have := h1.elt g hE; omega
/-- A move more stands behind those that were done. -/
theorem JP.push {w w' : World} {lo B : Nat} {E : Nat → Prop} {a b l m m' : Value} {x : Jb.J} {M' : List (Int × Int)} (h : JP w lo E B a b l m x) (hg : w.grownBy w' m.ownBlock) (ho : w'.ownsRow lo 41 2 m' M'.length (mce M')) (hb : ∀ g, m'.ownBlock = some g → m.ownBlock = some g ∨ w.heap.size ≤ g) :
    JP (w'.setCell ⟨B, 3, none⟩ m') lo E B a b l m' { x with M := M' } := by
  have hk : ∀ k, k < w.heap.size → k ≠ B → some k ≠ m.ownBlock → (w'.setCell ⟨B, 3, none⟩ m').heap[k]? = w.heap[k]? := fun k h1 h2 h3 => (Below.heap_setCell _ _ _ k h2).trans (hg.block k h1 h3)
  have hjw : JW w' B 25 a b l m (.int .i64 x.f) := h.jw.keep (hg.block B h.jw.lt fun e => h.nm e.symm)
  have nm' : m'.ownBlock ≠ some B := fun e => by
    rcases hb B e with h1 | h1
    · exact h.nm h1
    · have := h.jw.lt; omega
  have hs : w.heap.size ≤ (w'.setCell ⟨B, 3, none⟩ m').heap.size := by simpa using hg.size
  exact h.conf (L' := x.L) hs hk (hjw.set3 m') ⟨h.ol.1.keep hs fun k e => hk k (h.llt k e) (fun e' => h.nl (e' ▸ e)) (fun e' => h.lm k e e'.symm), h.ol.2⟩ (fun _ e => e) (own_set16 ho nm') hb
/-- How the model's order begins: the job and the answer in variables. -/
theorem sdo_in {aa ab ap am : Option Addr} {ca cb cp cm lo : Nat} {x : Jb.J} {w : World} (h : JV w lo (.slice aa x.xs.length ca) (.slice ab x.ws.length cb) (.slice ap x.L.length cp) (.slice am x.M.length cm) x) (hlo : lo ≤ w.heap.size) {W : World} (hW : W = (w.alloc (.cells #[.slice aa x.xs.length ca, .slice ab x.ws.length cb, .slice ap x.L.length cp, .slice am x.M.length cm, .int .i64 x.f] 25)).alloc (.cells #[.slice none 0 0, .slice none 0 0, .slice none 0 0, .slice none 0 0, .int .i64 0] 25)) :
    JP W lo (fun k => False ∨ k = w.heap.size + 1) w.heap.size (.slice aa x.xs.length ca) (.slice ab x.ws.length cb) (.slice ap x.L.length cp) (.slice am x.M.length cm) x ∧ JW W (w.heap.size + 1) 25 (.slice none 0 0) (.slice none 0 0) (.slice none 0 0) (.slice none 0 0) (.int .i64 0) ∧ Below lo w W := by
  have hs1 : (w.alloc (.cells #[.slice aa x.xs.length ca, .slice ab x.ws.length cb, .slice ap x.L.length cp, .slice am x.M.length cm, .int .i64 x.f] 25)).heap.size = w.heap.size + 1 := World.size_alloc _ _
  have h1 := h.box (E := fun _ => False) hlo fun k hk => hk.elim
  have h2 := h1.more (.cells #[.slice none 0 0, .slice none 0 0, .slice none 0 0, .slice none 0 0, .int .i64 0] 25)
  rw [← hW, hs1] at h2
  refine ⟨h2, ?_, ?_⟩
  · rw [hW, ← hs1]; exact JW.new _ _ _ _ _ _ _
  · rw [hW]; exact ((below_new w _).mono hlo).trans ((below_new _ _).mono (by omega))
set_option maxRecDepth 20000 in
set_option maxHeartbeats 4000000 in
theorem sdo_n1 {aa ab ap am : Option Addr} {ca cb cp cm lo : Nat} {x : Jb.J} {w : World} (h : JV w lo (.slice aa x.xs.length ca) (.slice ab x.ws.length cb) (.slice ap x.L.length cp) (.slice am x.M.length cm) x) (hlo : lo ≤ w.heap.size) (hL : x.L.length = 0) :
    Calls Try.prog 53 #[.agg #[.slice aa x.xs.length ca, .slice ab x.ws.length cb, .slice ap x.L.length cp, .slice am x.M.length cm, .int .i64 x.f], .int .i64 1] w fun e w' => ∃ u, e = .returned (.tuple #[u, .bool false]) ∧ Below lo w w' ∧ JR w' lo w'.heap.size u x := by
  obtain ⟨W, hW⟩ : ∃ W, W = (w.alloc (.cells #[.slice aa x.xs.length ca, .slice ab x.ws.length cb, .slice ap x.L.length cp, .slice am x.M.length cm, .int .i64 x.f] 25)).alloc (.cells #[.slice none 0 0, .slice none 0 0, .slice none 0 0, .slice none 0 0, .int .i64 0] 25) := ⟨_, rfl⟩
  obtain ⟨hp, hr, hb⟩ := sdo_in h hlo hW
  have HP := hide hp
  have HR := hide hr
  have HB := hide hb
  have HW := hide hW.symm
  obtain ⟨c0, c1, c2, c3, c4⟩ := hp.jw.cells
  have n1 : ((x.L.length : Int) == 0) = true := by rw [beq_iff_eq]; omega
  obtain ⟨q0, q1, q2, q3, q4⟩ := hr.cells
  have y0 := hr.fz 0
  have y1 := hr.fz 1
  have y2 := hr.fz 2
  have y3 := hr.fz 3
  have y4 := hr.fz 4
  have HK := hide (hr.put5 (.slice aa x.xs.length ca) (.slice ab x.ws.length cb) (.slice ap x.L.length cp) (.slice am x.M.length cm) (.int .i64 x.f)).cells
  have HF := hide (sdo_fin (R := w.heap.size + 1) hp (Or.inr rfl))
  have HBF := hide (hb.trans (put5_below (w := W) (B := w.heap.size + 1) (a := (.slice aa x.xs.length ca)) (b := (.slice ab x.ws.length cb)) (l := (.slice ap x.L.length cp)) (m := (.slice am x.M.length cm)) (f := (.int .i64 x.f)) (by omega)))
  clear h hp hr hb hW hL
  go_enter Try.func53, Try.ntmps53
  go_upto_region 1 with fail
  rw [HW.out]
  clear HW
  go_wp2_with fail
  show bodyPost _ _ _ _ _ (put5 W (w.heap.size + 1) (.slice aa x.xs.length ca) (.slice ab x.ws.length cb) (.slice ap x.L.length cp) (.slice am x.M.length cm) (.int .i64 x.f))
  generalize put5 W (w.heap.size + 1) (.slice aa x.xs.length ca) (.slice ab x.ws.length cb) (.slice ap x.L.length cp) (.slice am x.M.length cm) (.int .i64 x.f) = Wf at *
  obtain ⟨k0, k1, k2, k3, k4⟩ := HK.out
  exact bodyPost_ret (v := .tuple #[.agg #[.slice aa x.xs.length ca, .slice ab x.ws.length cb, .slice ap x.L.length cp, .slice am x.M.length cm, .int .i64 x.f], .bool false]) (by simp [results, Try.results53, go_sem, k0, k1, k2, k3, k4]) rfl ⟨_, rfl, HBF.out, HF.out⟩
set_option maxRecDepth 20000 in
set_option maxHeartbeats 4000000 in
theorem sdo_m1 {aa ab ap am : Option Addr} {ca cb cp cm lo : Nat} {x : Jb.J} {w : World} (h : JV w lo (.slice aa x.xs.length ca) (.slice ab x.ws.length cb) (.slice ap x.L.length cp) (.slice am x.M.length cm) x) (hlo : lo ≤ w.heap.size) (hL : x.L.length ≠ 0) (hM : x.M.length = 60) :
    Calls Try.prog 53 #[.agg #[.slice aa x.xs.length ca, .slice ab x.ws.length cb, .slice ap x.L.length cp, .slice am x.M.length cm, .int .i64 x.f], .int .i64 1] w fun e w' => ∃ u, e = .returned (.tuple #[u, .bool false]) ∧ Below lo w w' ∧ JR w' lo w'.heap.size u x := by
  obtain ⟨W, hW⟩ : ∃ W, W = (w.alloc (.cells #[.slice aa x.xs.length ca, .slice ab x.ws.length cb, .slice ap x.L.length cp, .slice am x.M.length cm, .int .i64 x.f] 25)).alloc (.cells #[.slice none 0 0, .slice none 0 0, .slice none 0 0, .slice none 0 0, .int .i64 0] 25) := ⟨_, rfl⟩
  obtain ⟨hp, hr, hb⟩ := sdo_in h hlo hW
  have HP := hide hp
  have HR := hide hr
  have HB := hide hb
  have HW := hide hW.symm
  obtain ⟨c0, c1, c2, c3, c4⟩ := hp.jw.cells
  have n1 : ((x.L.length : Int) == 0) = false := by rw [beq_eq_false_iff_ne]; omega
  have n2 : ((x.M.length : Int) == 60) = true := by rw [beq_iff_eq]; omega
  obtain ⟨q0, q1, q2, q3, q4⟩ := hr.cells
  have y0 := hr.fz 0
  have y1 := hr.fz 1
  have y2 := hr.fz 2
  have y3 := hr.fz 3
  have y4 := hr.fz 4
  have HK := hide (hr.put5 (.slice aa x.xs.length ca) (.slice ab x.ws.length cb) (.slice ap x.L.length cp) (.slice am x.M.length cm) (.int .i64 x.f)).cells
  have HF := hide (sdo_fin (R := w.heap.size + 1) hp (Or.inr rfl))
  have HBF := hide (hb.trans (put5_below (w := W) (B := w.heap.size + 1) (a := (.slice aa x.xs.length ca)) (b := (.slice ab x.ws.length cb)) (l := (.slice ap x.L.length cp)) (m := (.slice am x.M.length cm)) (f := (.int .i64 x.f)) (by omega)))
  clear h hp hr hb hW hL hM
  go_enter Try.func53, Try.ntmps53
  go_upto_region 1 with fail
  rw [HW.out]
  clear HW
  go_wp2_with fail
  show bodyPost _ _ _ _ _ (put5 W (w.heap.size + 1) (.slice aa x.xs.length ca) (.slice ab x.ws.length cb) (.slice ap x.L.length cp) (.slice am x.M.length cm) (.int .i64 x.f))
  generalize put5 W (w.heap.size + 1) (.slice aa x.xs.length ca) (.slice ab x.ws.length cb) (.slice ap x.L.length cp) (.slice am x.M.length cm) (.int .i64 x.f) = Wf at *
  obtain ⟨k0, k1, k2, k3, k4⟩ := HK.out
  exact bodyPost_ret (v := .tuple #[.agg #[.slice aa x.xs.length ca, .slice ab x.ws.length cb, .slice ap x.L.length cp, .slice am x.M.length cm, .int .i64 x.f], .bool false]) (by simp [results, Try.results53, go_sem, k0, k1, k2, k3, k4]) rfl ⟨_, rfl, HBF.out, HF.out⟩
set_option maxRecDepth 20000 in
set_option maxHeartbeats 4000000 in
theorem sdo_n2 {aa ab ap am : Option Addr} {ca cb cp cm lo : Nat} {x : Jb.J} {w : World} (h : JV w lo (.slice aa x.xs.length ca) (.slice ab x.ws.length cb) (.slice ap x.L.length cp) (.slice am x.M.length cm) x) (hlo : lo ≤ w.heap.size) (hL : x.L.length = 0) :
    Calls Try.prog 53 #[.agg #[.slice aa x.xs.length ca, .slice ab x.ws.length cb, .slice ap x.L.length cp, .slice am x.M.length cm, .int .i64 x.f], .int .i64 2] w fun e w' => ∃ u, e = .returned (.tuple #[u, .bool false]) ∧ Below lo w w' ∧ JR w' lo w'.heap.size u x := by
  obtain ⟨W, hW⟩ : ∃ W, W = (w.alloc (.cells #[.slice aa x.xs.length ca, .slice ab x.ws.length cb, .slice ap x.L.length cp, .slice am x.M.length cm, .int .i64 x.f] 25)).alloc (.cells #[.slice none 0 0, .slice none 0 0, .slice none 0 0, .slice none 0 0, .int .i64 0] 25) := ⟨_, rfl⟩
  obtain ⟨hp, hr, hb⟩ := sdo_in h hlo hW
  have HP := hide hp
  have HR := hide hr
  have HB := hide hb
  have HW := hide hW.symm
  obtain ⟨c0, c1, c2, c3, c4⟩ := hp.jw.cells
  have n1 : ((x.L.length : Int) == 0) = true := by rw [beq_iff_eq]; omega
  obtain ⟨q0, q1, q2, q3, q4⟩ := hr.cells
  have y0 := hr.fz 0
  have y1 := hr.fz 1
  have y2 := hr.fz 2
  have y3 := hr.fz 3
  have y4 := hr.fz 4
  have HK := hide (hr.put5 (.slice aa x.xs.length ca) (.slice ab x.ws.length cb) (.slice ap x.L.length cp) (.slice am x.M.length cm) (.int .i64 x.f)).cells
  have HF := hide (sdo_fin (R := w.heap.size + 1) hp (Or.inr rfl))
  have HBF := hide (hb.trans (put5_below (w := W) (B := w.heap.size + 1) (a := (.slice aa x.xs.length ca)) (b := (.slice ab x.ws.length cb)) (l := (.slice ap x.L.length cp)) (m := (.slice am x.M.length cm)) (f := (.int .i64 x.f)) (by omega)))
  clear h hp hr hb hW hL
  go_enter Try.func53, Try.ntmps53
  go_upto_region 1 with fail
  rw [HW.out]
  clear HW
  go_wp2_with fail
  show bodyPost _ _ _ _ _ (put5 W (w.heap.size + 1) (.slice aa x.xs.length ca) (.slice ab x.ws.length cb) (.slice ap x.L.length cp) (.slice am x.M.length cm) (.int .i64 x.f))
  generalize put5 W (w.heap.size + 1) (.slice aa x.xs.length ca) (.slice ab x.ws.length cb) (.slice ap x.L.length cp) (.slice am x.M.length cm) (.int .i64 x.f) = Wf at *
  obtain ⟨k0, k1, k2, k3, k4⟩ := HK.out
  exact bodyPost_ret (v := .tuple #[.agg #[.slice aa x.xs.length ca, .slice ab x.ws.length cb, .slice ap x.L.length cp, .slice am x.M.length cm, .int .i64 x.f], .bool false]) (by simp [results, Try.results53, go_sem, k0, k1, k2, k3, k4]) rfl ⟨_, rfl, HBF.out, HF.out⟩
set_option maxRecDepth 20000 in
set_option maxHeartbeats 4000000 in
theorem sdo_m2 {aa ab ap am : Option Addr} {ca cb cp cm lo : Nat} {x : Jb.J} {w : World} (h : JV w lo (.slice aa x.xs.length ca) (.slice ab x.ws.length cb) (.slice ap x.L.length cp) (.slice am x.M.length cm) x) (hlo : lo ≤ w.heap.size) (hL : x.L.length ≠ 0) (hM : x.f = 60) :
    Calls Try.prog 53 #[.agg #[.slice aa x.xs.length ca, .slice ab x.ws.length cb, .slice ap x.L.length cp, .slice am x.M.length cm, .int .i64 x.f], .int .i64 2] w fun e w' => ∃ u, e = .returned (.tuple #[u, .bool false]) ∧ Below lo w w' ∧ JR w' lo w'.heap.size u x := by
  obtain ⟨W, hW⟩ : ∃ W, W = (w.alloc (.cells #[.slice aa x.xs.length ca, .slice ab x.ws.length cb, .slice ap x.L.length cp, .slice am x.M.length cm, .int .i64 x.f] 25)).alloc (.cells #[.slice none 0 0, .slice none 0 0, .slice none 0 0, .slice none 0 0, .int .i64 0] 25) := ⟨_, rfl⟩
  obtain ⟨hp, hr, hb⟩ := sdo_in h hlo hW
  have HP := hide hp
  have HR := hide hr
  have HB := hide hb
  have HW := hide hW.symm
  obtain ⟨c0, c1, c2, c3, c4⟩ := hp.jw.cells
  have n1 : ((x.L.length : Int) == 0) = false := by rw [beq_eq_false_iff_ne]; omega
  have n2 : (x.f == 60) = true := by rw [beq_iff_eq]; omega
  obtain ⟨q0, q1, q2, q3, q4⟩ := hr.cells
  have y0 := hr.fz 0
  have y1 := hr.fz 1
  have y2 := hr.fz 2
  have y3 := hr.fz 3
  have y4 := hr.fz 4
  have HK := hide (hr.put5 (.slice aa x.xs.length ca) (.slice ab x.ws.length cb) (.slice ap x.L.length cp) (.slice am x.M.length cm) (.int .i64 x.f)).cells
  have HF := hide (sdo_fin (R := w.heap.size + 1) hp (Or.inr rfl))
  have HBF := hide (hb.trans (put5_below (w := W) (B := w.heap.size + 1) (a := (.slice aa x.xs.length ca)) (b := (.slice ab x.ws.length cb)) (l := (.slice ap x.L.length cp)) (m := (.slice am x.M.length cm)) (f := (.int .i64 x.f)) (by omega)))
  clear h hp hr hb hW hL hM
  go_enter Try.func53, Try.ntmps53
  go_upto_region 1 with fail
  rw [HW.out]
  clear HW
  go_wp2_with fail
  show bodyPost _ _ _ _ _ (put5 W (w.heap.size + 1) (.slice aa x.xs.length ca) (.slice ab x.ws.length cb) (.slice ap x.L.length cp) (.slice am x.M.length cm) (.int .i64 x.f))
  generalize put5 W (w.heap.size + 1) (.slice aa x.xs.length ca) (.slice ab x.ws.length cb) (.slice ap x.L.length cp) (.slice am x.M.length cm) (.int .i64 x.f) = Wf at *
  obtain ⟨k0, k1, k2, k3, k4⟩ := HK.out
  exact bodyPost_ret (v := .tuple #[.agg #[.slice aa x.xs.length ca, .slice ab x.ws.length cb, .slice ap x.L.length cp, .slice am x.M.length cm, .int .i64 x.f], .bool false]) (by simp [results, Try.results53, go_sem, k0, k1, k2, k3, k4]) rfl ⟨_, rfl, HBF.out, HF.out⟩
set_option maxRecDepth 20000 in
set_option maxHeartbeats 4000000 in
theorem sdo_no {aa ab ap am : Option Addr} {ca cb cp cm lo : Nat} {x : Jb.J} {w : World} (h : JV w lo (.slice aa x.xs.length ca) (.slice ab x.ws.length cb) (.slice ap x.L.length cp) (.slice am x.M.length cm) x) (hlo : lo ≤ w.heap.size) {o : Int} (h1 : ¬ o = 1) (h2 : ¬ o = 2) (h3 : ¬ o = 3) (h4 : ¬ o = 4) :
    Calls Try.prog 53 #[.agg #[.slice aa x.xs.length ca, .slice ab x.ws.length cb, .slice ap x.L.length cp, .slice am x.M.length cm, .int .i64 x.f], .int .i64 o] w fun e w' => ∃ u, e = .returned (.tuple #[u, .bool false]) ∧ Below lo w w' ∧ JR w' lo w'.heap.size u x := by
  obtain ⟨W, hW⟩ : ∃ W, W = (w.alloc (.cells #[.slice aa x.xs.length ca, .slice ab x.ws.length cb, .slice ap x.L.length cp, .slice am x.M.length cm, .int .i64 x.f] 25)).alloc (.cells #[.slice none 0 0, .slice none 0 0, .slice none 0 0, .slice none 0 0, .int .i64 0] 25) := ⟨_, rfl⟩
  obtain ⟨hp, hr, hb⟩ := sdo_in h hlo hW
  have HP := hide hp
  have HR := hide hr
  have HB := hide hb
  have HW := hide hW.symm
  obtain ⟨c0, c1, c2, c3, c4⟩ := hp.jw.cells
  obtain ⟨q0, q1, q2, q3, q4⟩ := hr.cells
  have y0 := hr.fz 0
  have y1 := hr.fz 1
  have y2 := hr.fz 2
  have y3 := hr.fz 3
  have y4 := hr.fz 4
  have HK := hide (hr.put5 (.slice aa x.xs.length ca) (.slice ab x.ws.length cb) (.slice ap x.L.length cp) (.slice am x.M.length cm) (.int .i64 x.f)).cells
  have HF := hide (sdo_fin (R := w.heap.size + 1) hp (Or.inr rfl))
  have HBF := hide (hb.trans (put5_below (w := W) (B := w.heap.size + 1) (a := (.slice aa x.xs.length ca)) (b := (.slice ab x.ws.length cb)) (l := (.slice ap x.L.length cp)) (m := (.slice am x.M.length cm)) (f := (.int .i64 x.f)) (by omega)))
  clear h hp hr hb hW
  go_enter Try.func53, Try.ntmps53
  go_upto_region 1 with fail
  rw [HW.out]
  clear HW
  go_wp2_with fail
  show bodyPost _ _ _ _ _ (put5 W (w.heap.size + 1) (.slice aa x.xs.length ca) (.slice ab x.ws.length cb) (.slice ap x.L.length cp) (.slice am x.M.length cm) (.int .i64 x.f))
  generalize put5 W (w.heap.size + 1) (.slice aa x.xs.length ca) (.slice ab x.ws.length cb) (.slice ap x.L.length cp) (.slice am x.M.length cm) (.int .i64 x.f) = Wf at *
  obtain ⟨k0, k1, k2, k3, k4⟩ := HK.out
  exact bodyPost_ret (v := .tuple #[.agg #[.slice aa x.xs.length ca, .slice ab x.ws.length cb, .slice ap x.L.length cp, .slice am x.M.length cm, .int .i64 x.f], .bool false]) (by simp [results, Try.results53, go_sem, k0, k1, k2, k3, k4]) rfl ⟨_, rfl, HBF.out, HF.out⟩
set_option maxRecDepth 20000 in
set_option maxHeartbeats 4000000 in
theorem sdo_4 {aa ab ap am : Option Addr} {ca cb cp cm lo : Nat} {x : Jb.J} {w : World} (h : JV w lo (.slice aa x.xs.length ca) (.slice ab x.ws.length cb) (.slice ap x.L.length cp) (.slice am x.M.length cm) x) (hlo : lo ≤ w.heap.size) :
    Calls Try.prog 53 #[.agg #[.slice aa x.xs.length ca, .slice ab x.ws.length cb, .slice ap x.L.length cp, .slice am x.M.length cm, .int .i64 x.f], .int .i64 4] w fun e w' => ∃ u, e = .returned (.tuple #[u, .bool true]) ∧ Below lo w w' ∧ JR w' lo w'.heap.size u { x with L := [] } := by
  obtain ⟨W, hW⟩ : ∃ W, W = (w.alloc (.cells #[.slice aa x.xs.length ca, .slice ab x.ws.length cb, .slice ap x.L.length cp, .slice am x.M.length cm, .int .i64 x.f] 25)).alloc (.cells #[.slice none 0 0, .slice none 0 0, .slice none 0 0, .slice none 0 0, .int .i64 0] 25) := ⟨_, rfl⟩
  obtain ⟨hp, hr, hb⟩ := sdo_in h hlo hW
  have HP := hide hp
  have HR := hide hr
  have HB := hide hb
  have HW := hide hW.symm
  obtain ⟨c0, c1, c2, c3, c4⟩ := hp.jw.cells
  have z2 := hp.jw.fz 2
  have hp2 := hp.empty
  obtain ⟨d0, d1, d2, d3, d4⟩ := hp2.jw.cells
  have hr2 : JW (W.setCell ⟨w.heap.size, 2, none⟩ (.slice none 0 0)) (w.heap.size + 1) 25 _ _ _ _ _ := hr.other (by simp) _
  have hb2 := hb.trans (below_set16 (k := 2) (u := .slice none 0 0) (E := fun k => False ∨ k = w.heap.size + 1) hp.lob hp.eB).1
  obtain ⟨q0, q1, q2, q3, q4⟩ := hr2.cells
  have y0 := hr2.fz 0
  have y1 := hr2.fz 1
  have y2 := hr2.fz 2
  have y3 := hr2.fz 3
  have y4 := hr2.fz 4
  have HK := hide (hr2.put5 (.slice aa x.xs.length ca) (.slice ab x.ws.length cb) (.slice none 0 0) (.slice am x.M.length cm) (.int .i64 x.f)).cells
  have HF := hide (sdo_fin (R := w.heap.size + 1) hp2 (Or.inr rfl))
  have HBF := hide (hb2.trans (put5_below (w := (W.setCell ⟨w.heap.size, 2, none⟩ (.slice none 0 0))) (B := w.heap.size + 1) (a := (.slice aa x.xs.length ca)) (b := (.slice ab x.ws.length cb)) (l := (.slice none 0 0)) (m := (.slice am x.M.length cm)) (f := (.int .i64 x.f)) (by omega)))
  clear h hp hr hb hW hp2 hr2 hb2
  go_enter Try.func53, Try.ntmps53
  go_upto_region 1 with fail
  rw [HW.out]
  clear HW
  go_wp2_with fail
  show bodyPost _ _ _ _ _ (put5 (W.setCell ⟨w.heap.size, 2, none⟩ (.slice none 0 0)) (w.heap.size + 1) (.slice aa x.xs.length ca) (.slice ab x.ws.length cb) (.slice none 0 0) (.slice am x.M.length cm) (.int .i64 x.f))
  generalize put5 (W.setCell ⟨w.heap.size, 2, none⟩ (.slice none 0 0)) (w.heap.size + 1) (.slice aa x.xs.length ca) (.slice ab x.ws.length cb) (.slice none 0 0) (.slice am x.M.length cm) (.int .i64 x.f) = Wf at *
  obtain ⟨k0, k1, k2, k3, k4⟩ := HK.out
  exact bodyPost_ret (v := .tuple #[.agg #[.slice aa x.xs.length ca, .slice ab x.ws.length cb, .slice none 0 0, .slice am x.M.length cm, .int .i64 x.f], .bool true]) (by simp [results, Try.results53, go_sem, k0, k1, k2, k3, k4]) rfl ⟨_, rfl, HBF.out, HF.out⟩
set_option maxRecDepth 20000 in
set_option maxHeartbeats 4000000 in
theorem sdo_2 {aa ab ap am : Option Addr} {ca cb cp cm lo : Nat} {x : Jb.J} {w : World} (h : JV w lo (.slice aa x.xs.length ca) (.slice ab x.ws.length cb) (.slice ap x.L.length cp) (.slice am x.M.length cm) x) (hlo : lo ≤ w.heap.size) (hf : Jb.Fit x) (hL : x.L.length ≠ 0) (hff : x.f < 60) :
    Calls Try.prog 53 #[.agg #[.slice aa x.xs.length ca, .slice ab x.ws.length cb, .slice ap x.L.length cp, .slice am x.M.length cm, .int .i64 x.f], .int .i64 2] w fun e w' => ∃ u, e = .returned (.tuple #[u, .bool true]) ∧ Below lo w w' ∧ JR w' lo w'.heap.size u { x with L := [], f := x.f + 1 } := by
  obtain ⟨W, hW⟩ : ∃ W, W = (w.alloc (.cells #[.slice aa x.xs.length ca, .slice ab x.ws.length cb, .slice ap x.L.length cp, .slice am x.M.length cm, .int .i64 x.f] 25)).alloc (.cells #[.slice none 0 0, .slice none 0 0, .slice none 0 0, .slice none 0 0, .int .i64 0] 25) := ⟨_, rfl⟩
  obtain ⟨hp, hr, hb⟩ := sdo_in h hlo hW
  have HP := hide hp
  have HR := hide hr
  have HB := hide hb
  have HW := hide hW.symm
  obtain ⟨c0, c1, c2, c3, c4⟩ := hp.jw.cells
  have z4 := hp.jw.fz 4
  have hp1 := hp.fails (x.f + 1)
  obtain ⟨b0, b1, b2, b3, b4⟩ := hp1.jw.cells
  have z2 := hp1.jw.fz 2
  have hp2 := hp1.empty
  obtain ⟨d0, d1, d2, d3, d4⟩ := hp2.jw.cells
  have hr2 : JW ((W.setCell ⟨w.heap.size, 4, none⟩ (.int .i64 (x.f + 1))).setCell ⟨w.heap.size, 2, none⟩ (.slice none 0 0)) (w.heap.size + 1) 25 _ _ _ _ _ := (hr.other (by simp) _).other (by simp) _
  have hb2 := (hb.trans (below_set16 (k := 4) (u := .int .i64 (x.f + 1)) (E := fun k => False ∨ k = w.heap.size + 1) hp.lob hp.eB).1).trans (below_set16 (k := 2) (u := .slice none 0 0) (E := fun k => False ∨ k = w.heap.size + 1) hp1.lob hp1.eB).1
  have n1 : ((x.L.length : Int) == 0) = false := by rw [beq_eq_false_iff_ne]; omega
  have n2 : (x.f == 60) = false := by rw [beq_eq_false_iff_ne]; omega
  have g0 := hf.f0
  obtain ⟨q0, q1, q2, q3, q4⟩ := hr2.cells
  have y0 := hr2.fz 0
  have y1 := hr2.fz 1
  have y2 := hr2.fz 2
  have y3 := hr2.fz 3
  have y4 := hr2.fz 4
  have HK := hide (hr2.put5 (.slice aa x.xs.length ca) (.slice ab x.ws.length cb) (.slice none 0 0) (.slice am x.M.length cm) (.int .i64 (x.f + 1))).cells
  have HF := hide (sdo_fin (R := w.heap.size + 1) hp2 (Or.inr rfl))
  have HBF := hide (hb2.trans (put5_below (w := ((W.setCell ⟨w.heap.size, 4, none⟩ (.int .i64 (x.f + 1))).setCell ⟨w.heap.size, 2, none⟩ (.slice none 0 0))) (B := w.heap.size + 1) (a := (.slice aa x.xs.length ca)) (b := (.slice ab x.ws.length cb)) (l := (.slice none 0 0)) (m := (.slice am x.M.length cm)) (f := (.int .i64 (x.f + 1))) (by omega)))
  clear h hp hr hb hW hp1 hp2 hr2 hb2 hf hL
  go_enter Try.func53, Try.ntmps53
  go_upto_region 1 with fail
  rw [HW.out]
  clear HW
  go_wp2_with fail
  show bodyPost _ _ _ _ _ (put5 ((W.setCell ⟨w.heap.size, 4, none⟩ (.int .i64 (x.f + 1))).setCell ⟨w.heap.size, 2, none⟩ (.slice none 0 0)) (w.heap.size + 1) (.slice aa x.xs.length ca) (.slice ab x.ws.length cb) (.slice none 0 0) (.slice am x.M.length cm) (.int .i64 (x.f + 1)))
  generalize put5 ((W.setCell ⟨w.heap.size, 4, none⟩ (.int .i64 (x.f + 1))).setCell ⟨w.heap.size, 2, none⟩ (.slice none 0 0)) (w.heap.size + 1) (.slice aa x.xs.length ca) (.slice ab x.ws.length cb) (.slice none 0 0) (.slice am x.M.length cm) (.int .i64 (x.f + 1)) = Wf at *
  obtain ⟨k0, k1, k2, k3, k4⟩ := HK.out
  exact bodyPost_ret (v := .tuple #[.agg #[.slice aa x.xs.length ca, .slice ab x.ws.length cb, .slice none 0 0, .slice am x.M.length cm, .int .i64 (x.f + 1)], .bool true]) (by simp [results, Try.results53, go_sem, k0, k1, k2, k3, k4]) rfl ⟨_, rfl, HBF.out, HF.out⟩
set_option maxRecDepth 20000 in
set_option maxHeartbeats 4000000 in
theorem sdo_3 {aa ab ap am : Option Addr} {ca cb cp cm lo : Nat} {x : Jb.J} {w : World} (h : JV w lo (.slice aa x.xs.length ca) (.slice ab x.ws.length cb) (.slice ap x.L.length cp) (.slice am x.M.length cm) x) (hlo : lo ≤ w.heap.size) (hca : x.xs.length ≤ ca) (hcb : x.ws.length ≤ cb) :
    Calls Try.prog 53 #[.agg #[.slice aa x.xs.length ca, .slice ab x.ws.length cb, .slice ap x.L.length cp, .slice am x.M.length cm, .int .i64 x.f], .int .i64 3] w fun e w' => ∃ u, e = .returned (.tuple #[u, .bool true]) ∧ Below lo w w' ∧ JR w' lo w'.heap.size u { x with L := Mx.pmL x.xs x.ws } := by
  obtain ⟨W, hW⟩ : ∃ W, W = (w.alloc (.cells #[.slice aa x.xs.length ca, .slice ab x.ws.length cb, .slice ap x.L.length cp, .slice am x.M.length cm, .int .i64 x.f] 25)).alloc (.cells #[.slice none 0 0, .slice none 0 0, .slice none 0 0, .slice none 0 0, .int .i64 0] 25) := ⟨_, rfl⟩
  obtain ⟨hp, hr, hb⟩ := sdo_in h hlo hW
  have HP := hide hp
  have HR := hide hr
  have HB := hide hb
  have HW := hide hW.symm
  obtain ⟨c0, c1, c2, c3, c4⟩ := hp.jw.cells
  have HPM := hide (spm_o (w := W) rfl rfl hca hcb (arow_own16 hp.oa) (arow_own16 hp.ob))
  clear h hb hW
  obtain ⟨c0, c1, c2, c3, c4⟩ := hp.jw.cells
  clear hp hr
  go_enter Try.func53, Try.ntmps53
  go_upto_region 1 with fail
  rw [HW.out]
  clear HW
  go_wp2_with fail
  refine HPM.out.mono ?_
  rintro e w5 ⟨v, rfl, hb5, ho⟩
  obtain ⟨hj, pv, cv, rfl⟩ := JP.planned HP.out hb5 ho
  have h5 := HP.out.below hb5
  obtain ⟨b0, b1, b2, b3, b4⟩ := h5.jw.cells
  have z2 := h5.jw.fz 2
  obtain ⟨d0, d1, d2, d3, d4⟩ := hj.jw.cells
  have hr5 : JW (w5.setCell ⟨w.heap.size, 2, none⟩ (.slice pv (Mx.pmL x.xs x.ws).length cv)) (w.heap.size + 1) 25 _ _ _ _ _ := (HR.out.below hb5).other (by simp) _
  have hb6 := (HB.out.trans (hb5.mono (Nat.le_trans HP.out.lob (Nat.le_of_lt HP.out.jw.lt)))).trans (below_set16 (k := 2) (u := .slice pv (Mx.pmL x.xs x.ws).length cv) (E := fun k => False ∨ k = w.heap.size + 1) h5.lob h5.eB).1
  obtain ⟨q0, q1, q2, q3, q4⟩ := hr5.cells
  have y0 := hr5.fz 0
  have y1 := hr5.fz 1
  have y2 := hr5.fz 2
  have y3 := hr5.fz 3
  have y4 := hr5.fz 4
  have HK := hide (hr5.put5 (.slice aa x.xs.length ca) (.slice ab x.ws.length cb) (.slice pv (Mx.pmL x.xs x.ws).length cv) (.slice am x.M.length cm) (.int .i64 x.f)).cells
  have HF := hide (sdo_fin (R := w.heap.size + 1) hj (Or.inr rfl))
  have HBF := hide (hb6.trans (put5_below (w := (w5.setCell ⟨w.heap.size, 2, none⟩ (.slice pv (Mx.pmL x.xs x.ws).length cv))) (B := w.heap.size + 1) (a := (.slice aa x.xs.length ca)) (b := (.slice ab x.ws.length cb)) (l := (.slice pv (Mx.pmL x.xs x.ws).length cv)) (m := (.slice am x.M.length cm)) (f := (.int .i64 x.f)) (by omega)))
  clear hb5 ho hj h5 hr5 hb6 HPM c0 c1 c2 c3 c4
  go_wp2_with fail
  show bodyPost _ _ _ _ _ (put5 (w5.setCell ⟨w.heap.size, 2, none⟩ (.slice pv (Mx.pmL x.xs x.ws).length cv)) (w.heap.size + 1) (.slice aa x.xs.length ca) (.slice ab x.ws.length cb) (.slice pv (Mx.pmL x.xs x.ws).length cv) (.slice am x.M.length cm) (.int .i64 x.f))
  generalize put5 (w5.setCell ⟨w.heap.size, 2, none⟩ (.slice pv (Mx.pmL x.xs x.ws).length cv)) (w.heap.size + 1) (.slice aa x.xs.length ca) (.slice ab x.ws.length cb) (.slice pv (Mx.pmL x.xs x.ws).length cv) (.slice am x.M.length cm) (.int .i64 x.f) = Wf at *
  obtain ⟨k0, k1, k2, k3, k4⟩ := HK.out
  exact bodyPost_ret (v := .tuple #[.agg #[.slice aa x.xs.length ca, .slice ab x.ws.length cb, .slice pv (Mx.pmL x.xs x.ws).length cv, .slice am x.M.length cm, .int .i64 x.f], .bool true]) (by simp [results, Try.results53, go_sem, k0, k1, k2, k3, k4]) rfl ⟨_, rfl, HBF.out, HF.out⟩
end Go.Proofs.Ytnjkdfeajlnojaa
namespace Go.Proofs.Ytnjkdfeajlnojaa
open Go.RowKit

set_option maxRecDepth 20000 in
set_option maxHeartbeats 4000000 in
theorem sdo_1 {aa ab ap am : Option Addr} {ca cb cp cm lo : Nat} {x : Jb.J} {w : World} (h : JV w lo (.slice aa x.xs.length ca) (.slice ab x.ws.length cb) (.slice ap x.L.length cp) (.slice am x.M.length cm) x) (hlo : lo ≤ w.heap.size) {q : Int × Int} {r : List (Int × Int)} (hf : Jb.Fit x) (hL : x.L = q :: r) (hM : x.M.length < 60) :
    Calls Try.prog 53 #[.agg #[.slice aa x.xs.length ca, .slice ab x.ws.length cb, .slice ap x.L.length cp, .slice am x.M.length cm, .int .i64 x.f], .int .i64 1] w fun e w' => ∃ u, e = .returned (.tuple #[u, .bool true]) ∧ Below lo w w' ∧ JR w' lo w'.heap.size u { x with xs := Mx.mv x.xs q, L := r, M := x.M ++ [q] } := by
  obtain ⟨W, hW⟩ : ∃ W, W = (w.alloc (.cells #[.slice aa x.xs.length ca, .slice ab x.ws.length cb, .slice ap x.L.length cp, .slice am x.M.length cm, .int .i64 x.f] 25)).alloc (.cells #[.slice none 0 0, .slice none 0 0, .slice none 0 0, .slice none 0 0, .int .i64 0] 25) := ⟨_, rfl⟩
  obtain ⟨hp, hr, hb⟩ := sdo_in h hlo hW
  have HP := hide hp
  have HR := hide hr
  have HB := hide hb
  have HW := hide hW.symm
  obtain ⟨c0, c1, c2, c3, c4⟩ := hp.jw.cells
  obtain ⟨hcan, _⟩ := hf.head hL
  obtain ⟨f, t⟩ := q
  obtain ⟨⟨a1, a2⟩, ⟨a3, a4⟩, _, _⟩ := Mx.can_in hcan
  obtain ⟨f', rfl⟩ := Int.eq_ofNat_of_zero_le a1
  obtain ⟨t', rfl⟩ := Int.eq_ofNat_of_zero_le a3
  obtain ⟨R, hR⟩ : ∃ R, r.length = R := ⟨_, rfl⟩
  have hLl : x.L.length = R + 1 := by rw [hL]; simp [hR]
  have hR20 : R ≤ 20 := by have := hf.few; omega
  have hxl := hf.two
  obtain ⟨gl, ol, rfl, hcl, l0, l1⟩ : ∃ gl ol, ap = some ⟨gl, ol, none⟩ ∧ R + 1 ≤ cp ∧ W.cell? ⟨gl, ol, none⟩ = some (.int .i64 (f' : Int)) ∧ W.cell? ⟨gl, ol + 1, none⟩ = some (.int .i64 (t' : Int)) := by
    obtain ⟨_, c', e, hc⟩ := hp.ol.2.2
    rcases hp.ol.1.2 with ⟨h0, _⟩ | ⟨gl, ol, cl, e2, gl1, gl2, gl3⟩
    · omega
    · obtain ⟨l0, l1⟩ := gl2 0 (by omega)
      rw [hL] at l0 l1
      simp only [Value.slice.injEq] at e e2
      exact ⟨gl, ol, e2.1, by omega, by simpa using l0, by simpa using l1⟩
  obtain ⟨ga, rfl⟩ : ∃ ga, aa = some ⟨ga, 0, none⟩ := by
    rcases hp.oa.2 with ⟨e, h0⟩ | ⟨ga, ca', cur, e, _⟩
    · omega
    · simp only [Value.slice.injEq] at e; exact ⟨ga, e.1⟩
  have n1 : ((x.L.length : Int) == 0) = false := by rw [beq_eq_false_iff_ne]; omega
  have n2 : ((x.M.length : Int) == 60) = false := by rw [beq_eq_false_iff_ne]; omega
  have n3 : ¬ x.L.length = 0 := by omega
  have r0 : (0 : Int) < (x.L.length : Int) := by omega
  have HG := hide (⟨hLl, hR20, hxl, hR, hL, hM, hf, hcan⟩ : _ ∧ _ ∧ _ ∧ _ ∧ _ ∧ _ ∧ _ ∧ _)
  have HA := hide (⟨a2, a4⟩ : _ ∧ _)
  have hb3 := below_new W (.cells #[.int .i64 (f' : Int), .int .i64 (t' : Int)] 41)
  have hp3 := hp.below hb3
  obtain ⟨e0, e1, e2, e3, e4⟩ := hp3.jw.cells
  have HP3 := hide hp3
  have HR3 := hide (hr.below hb3)
  have HB3 := hide (hb.trans (hb3.mono (Nat.le_trans hp.lob (Nat.le_of_lt hp.jw.lt))))
  have HN3 := hide (MW.new W (.int .i64 (f' : Int)) (.int .i64 (t' : Int)))
  have HGA := hide (show ga < W.heap.size from (hp.oa.lt ga rfl).2)
  have HLD := hide (ld_any (F := (f' : Int)) (T := (t' : Int)) rfl hp3.oa)
  clear hb3 hp3
  clear h hp hr hb hW hLl hR20 hxl hR hL hM hf hcan a2 a4
  go_enter Try.func53, Try.ntmps53
  go_upto_region 1 with fail
  rw [HW.out]
  clear HW
  go_wp2_with fail
  refine HLD.out.mono ?_
  rintro e w4 ⟨rfl, hown, hgr⟩
  obtain ⟨hLl, hR20, hxl, hR, hL, hM, hf, hcan⟩ := HG.out
  rw [show aft x.xs ((f' : Int), (t' : Int)) = Mx.mv x.xs ((f' : Int), (t' : Int)) by unfold aft; rw [hcan]; rfl] at hown
  have h4 := HP3.out.moved hgr (mv_len16 _ _) hown
  have n4 : MW w4 W.heap.size _ _ := (hgr.block _ HN3.out.lt (fun e => by cases e; exact absurd HGA.out (Nat.lt_irrefl _))).trans HN3.out
  have r4 : JW w4 (w.heap.size + 1) 25 _ _ _ _ _ := (hgr.block _ HR3.out.lt (fun e => by cases e; exact HP3.out.ea _ rfl (Or.inr rfl))).trans HR3.out
  have b4 : Below lo w w4 := HB3.out.trans (grown_under10 hgr (fun g e => by cases e; exact (HP3.out.oa.lt _ rfl).1) (Nat.le_trans HP3.out.lob (Nat.le_of_lt HP3.out.jw.lt)))
  have lo4 : lo ≤ w4.heap.size := Nat.le_trans h4.lob (Nat.le_of_lt h4.jw.lt)
  obtain ⟨gg, cap, w6, hr6, ho6, hg6, hat6⟩ := push_mv2 (x := (f' : Int)) (y := (t' : Int)) h4.om (by show x.M.length ≤ 1048576; omega) lo4
  have h7 := h4.push (M' := x.M ++ [((f' : Int), (t' : Int))]) hg6 (by rw [mce_snoc, List.length_append]; exact ho6) (fun g e => by simp [Value.ownBlock] at e; subst e; exact hat6)
  have j6 : JW w6 w.heap.size 25 _ _ _ _ _ := h4.jw.keep (hg6.block _ h4.jw.lt fun e => h4.nm e.symm)
  have r6 : JW w6 (w.heap.size + 1) 25 _ _ _ _ _ := (hg6.block _ r4.lt (fun e => h4.em _ e.symm (Or.inr rfl))).trans r4
  have r7 := r6.other (p := ⟨w.heap.size, 3, none⟩) (by simp) (.slice (some ⟨gg, 0, none⟩) (x.M.length + 1) cap)
  have b7 : Below lo w (w6.setCell ⟨w.heap.size, 3, none⟩ (.slice (some ⟨gg, 0, none⟩) (x.M.length + 1) cap)) := (b4.trans (grown_under10 hg6 (fun g e => (h4.om.lt g e).1) lo4)).trans (below_set16 (E := fun k => False ∨ k = w.heap.size + 1) h4.lob h4.eB).1
  generalize hW7 : w6.setCell ⟨w.heap.size, 3, none⟩ (.slice (some ⟨gg, 0, none⟩) (x.M.length + 1) cap) = w7 at *
  obtain ⟨AD, hAD⟩ : ∃ AD : Option Addr, (if cp = 1 then some (⟨gl, ol, none⟩ : Addr) else some ⟨gl, ol + 2, none⟩) = AD := ⟨_, rfl⟩
  have hrow : FRow w7 AD r := by
    rcases h7.ol.1.2 with ⟨h0, _⟩ | ⟨gl', ol', cl, e2, g1, g2, _⟩
    · exact absurd (hLl.symm.trans h0) (by omega)
    · simp only [Value.slice.injEq, Option.some.injEq, Addr.mk.injEq] at e2
      obtain ⟨⟨rfl, rfl, _⟩, _, _⟩ := e2
      by_cases h1 : cp = 1
      · exact Or.inl (List.length_eq_zero_iff.1 (by omega))
      · rw [← hAD, if_neg h1]
        refine Or.inr ⟨gl, ol + 2, rfl, g1, fun i hi => ?_⟩
        have := g2 (i + 1) (by show i + 1 < x.L.length; omega)
        rw [show ({ x with xs := Mx.mv x.xs ((f' : Int), (t' : Int)), M := x.M ++ [((f' : Int), (t' : Int))] } : Jb.J).L = _ from hL, List.getD_cons_succ] at this
        rw [show ol + 2 + i * 2 = ol + (i + 1) * 2 by omega]
        exact this
  obtain ⟨v8, w8, hr8, ho8, hb8⟩ := cl_mv (c := cp - 1) hR (by omega) hrow
  rw [← hR] at ho8
  obtain ⟨h9, pv, cv, rfl⟩ := h7.planned hb8 ho8
  have h8 := h7.below hb8
  have r9 := (r7.below hb8).other (p := ⟨w.heap.size, 2, none⟩) (by simp) (.slice pv r.length cv)
  have b9 := (b7.trans (hb8.mono (Nat.le_trans h7.lob (Nat.le_of_lt h7.jw.lt)))).trans (below_set16 (k := 2) (u := .slice pv r.length cv) (E := fun k => False ∨ k = w.heap.size + 1) h8.lob h8.eB).1
  have m0 := n4.cells.1
  have m1 := n4.cells.2
  have u3 := h4.jw.cells.2.2.2.1
  have u6 := j6.cells.2.2.2.1
  have z6 := j6.fz 3
  have u7 : ∀ o, (w7.alloc o).cell? ⟨w.heap.size, 2, none⟩ = some (.slice (some ⟨gl, ol, none⟩) x.L.length cp) := fun o => (h7.jw.alloc o).cells.2.2.1
  have u8 := h8.jw.cells.2.2.1
  have z8 := h8.jw.fz 2
  obtain ⟨d0, d1, d2, d3, d4⟩ := h9.jw.cells
  obtain ⟨q0, q1, q2, q3, q4⟩ := r9.cells
  have y0 := r9.fz 0
  have y1 := r9.fz 1
  have y2 := r9.fz 2
  have y3 := r9.fz 3
  have y4 := r9.fz 4
  have HK := hide (r9.put5 (.slice (some ⟨ga, 0, none⟩) x.xs.length ca) (.slice ab x.ws.length cb) (.slice pv r.length cv) (.slice (some ⟨gg, 0, none⟩) (x.M.length + 1) cap) (.int .i64 x.f)).cells
  have HF := hide (sdo_fin (R := w.heap.size + 1) h9 (Or.inr rfl))
  have HBF := hide (b9.trans (put5_below (w := (w8.setCell ⟨w.heap.size, 2, none⟩ (.slice pv r.length cv))) (B := w.heap.size + 1) (a := (.slice (some ⟨ga, 0, none⟩) x.xs.length ca)) (b := (.slice ab x.ws.length cb)) (l := (.slice pv r.length cv)) (m := (.slice (some ⟨gg, 0, none⟩) (x.M.length + 1) cap)) (f := (.int .i64 x.f)) (by omega)))
  have hr8' : ∀ ty, (Builtin.append_ #[23, 23] ty #[.slice (some ⟨w7.heap.size, 0, none⟩) 0 0, .slice AD (x.L.length - 1) (cp - 1)]).run Try.prog (w7.alloc (.cells #[] 41)) = .ok (.slice pv r.length cv) w8 := fun ty => by rw [show x.L.length - 1 = R by omega]; exact hr8 ty
  have rr : (1 : Int) ≤ (x.L.length : Int) := by omega
  have HW7 := hide hW7
  clear hown hgr h4 n4 r4 b4 hg6 h7 j6 r6 r7 b7 hrow hb8 ho8 h9 h8 r9 b9 hr8 ho6 hat6 hW7 hLl hR20 hxl hR hL hM hf hcan HLD HP3 HR3 HB3 HN3 HG
  go_upto_region 9 with (first | (at_builtin; refine Lib.wpList_append_run _ rfl _ _ _ _ rfl _ _ rfl rfl _ _ (hr6 _) ?_))
  rw [HW7.out]
  clear HW7 hr6
  go_wp2_with (first | (at_builtin; refine Lib.wpList_append_run _ rfl _ _ _ _ rfl _ _ rfl rfl _ _ (hr8' _) ?_))
  show bodyPost _ _ _ _ _ (put5 (w8.setCell ⟨w.heap.size, 2, none⟩ (.slice pv r.length cv)) (w.heap.size + 1) (.slice (some ⟨ga, 0, none⟩) x.xs.length ca) (.slice ab x.ws.length cb) (.slice pv r.length cv) (.slice (some ⟨gg, 0, none⟩) (x.M.length + 1) cap) (.int .i64 x.f))
  generalize put5 (w8.setCell ⟨w.heap.size, 2, none⟩ (.slice pv r.length cv)) (w.heap.size + 1) (.slice (some ⟨ga, 0, none⟩) x.xs.length ca) (.slice ab x.ws.length cb) (.slice pv r.length cv) (.slice (some ⟨gg, 0, none⟩) (x.M.length + 1) cap) (.int .i64 x.f) = Wf at *
  obtain ⟨k0, k1, k2, k3, k4⟩ := HK.out
  exact bodyPost_ret (v := .tuple #[.agg #[.slice (some ⟨ga, 0, none⟩) x.xs.length ca, .slice ab x.ws.length cb, .slice pv r.length cv, .slice (some ⟨gg, 0, none⟩) (x.M.length + 1) cap, .int .i64 x.f], .bool true]) (by simp [results, Try.results53, go_sem, k0, k1, k2, k3, k4]) rfl ⟨_, rfl, HBF.out, HF.out⟩
end Go.Proofs.Ytnjkdfeajlnojaa
namespace Go.Proofs.Ytnjkdfeajlnojaa
open Go.RowKit

theorem own_cap16 {w : World} {base e s n c : Nat} {a : Option Addr} {xs : List Value} (h : w.ownsRow base e s (.slice a n c) n xs) : n ≤ c := by
  rcases h.2 with ⟨e, h0⟩ | ⟨g, cap, cur, e, _, _, hnc, _⟩
  · simp only [Value.slice.injEq] at e; omega
  · simp only [Value.slice.injEq] at e; omega
set_option maxRecDepth 20000 in
set_option maxHeartbeats 1000000 in
theorem sdo_any {a b l m : Value} {lo : Nat} {x : Jb.J} {o : Int} {w : World} (h : JV w lo a b l m x) (hlo : lo ≤ w.heap.size) (hf : Jb.Fit x) :
    Calls Try.prog 53 #[.agg #[a, b, l, m, .int .i64 x.f], .int .i64 o] w fun e w' => ∃ u, e = .returned (.tuple #[u, .bool (Jb.doJ x o).isSome]) ∧ Below lo w w' ∧ JR w' lo w'.heap.size u (Jb.oneJ x o) := by
  obtain ⟨aa, ca, rfl⟩ := own_f16 h.oa
  obtain ⟨ab, cb, rfl⟩ := own_f16 h.ob
  obtain ⟨ap, cp, rfl⟩ := own_f16 h.ol
  obtain ⟨am, cm, rfl⟩ := own_f16 h.om
  have no : ∀ {o : Int}, Jb.doJ x o = none → (Jb.doJ x o).isSome = false ∧ Jb.oneJ x o = x := fun h => by unfold Jb.oneJ; rw [h]; exact ⟨rfl, rfl⟩
  have yes : ∀ {o : Int} {y : Jb.J}, Jb.doJ x o = some y → (Jb.doJ x o).isSome = true ∧ Jb.oneJ x o = y := fun h => by unfold Jb.oneJ; rw [h]; exact ⟨rfl, rfl⟩
  by_cases h1 : o = 1
  · subst h1
    by_cases hl0 : x.L.length = 0
    · obtain ⟨e1, e2⟩ := no (o := 1) (by simp [Jb.doJ, List.length_eq_zero_iff.1 hl0])
      rw [e1, e2]
      exact sdo_n1 h hlo hl0
    · obtain ⟨q, r, hL⟩ : ∃ q r, x.L = q :: r := List.exists_cons_of_length_pos (by omega)
      by_cases hM : x.M.length < 60
      · obtain ⟨e1, e2⟩ := yes (o := 1) (y := { x with xs := Mx.mv x.xs q, L := r, M := x.M ++ [q] }) (by simp [Jb.doJ, hL, hM])
        rw [e1, e2]
        exact sdo_1 h hlo hf hL hM
      · obtain ⟨e1, e2⟩ := no (o := 1) (by simp [Jb.doJ, hL, hM])
        rw [e1, e2]
        exact sdo_m1 h hlo hl0 (by have := hf.m60; omega)
  by_cases h2 : o = 2
  · subst h2
    by_cases hl0 : x.L.length = 0
    · obtain ⟨e1, e2⟩ := no (o := 2) (by simp [Jb.doJ, List.length_eq_zero_iff.1 hl0])
      rw [e1, e2]
      exact sdo_n2 h hlo hl0
    · have hl1 : ¬ x.L = [] := fun e => hl0 (by rw [e]; rfl)
      by_cases hF : x.f < 60
      · obtain ⟨e1, e2⟩ := yes (o := 2) (y := { x with L := [], f := x.f + 1 }) (by simp [Jb.doJ, hl1, hF])
        rw [e1, e2]
        exact sdo_2 h hlo hf hl0 hF
      · obtain ⟨e1, e2⟩ := no (o := 2) (by simp [Jb.doJ, hF])
        rw [e1, e2]
        exact sdo_m2 h hlo hl0 (by have := hf.f60; omega)
  by_cases h3 : o = 3
  · subst h3
    obtain ⟨e1, e2⟩ := yes (o := 3) (y := { x with L := Mx.pmL x.xs x.ws }) rfl
    rw [e1, e2]
    exact sdo_3 h hlo (own_cap16 h.oa) (own_cap16 h.ob)
  by_cases h4 : o = 4
  · subst h4
    obtain ⟨e1, e2⟩ := yes (o := 4) (y := { x with L := [] }) rfl
    rw [e1, e2]
    exact sdo_4 h hlo
  · obtain ⟨e1, e2⟩ := no (o := o) (do_other h1 h2 h3 h4)
    rw [e1, e2]
    exact sdo_no h hlo h1 h2 h3 h4
theorem JR.up {w : World} {lo hi hi' : Nat} {v : Value} {x : Jb.J} (h : JR w lo hi v x) (h1 : hi ≤ hi') (h2 : hi' ≤ w.heap.size) : JR w lo hi' v x := by
  obtain ⟨a, b, l, m, e1, e2, e3, e4, e5, e6, e7, e8⟩ := h.ex
  exact ⟨a, b, l, m, e1, e2, e3, e4, e5, fun g e => ⟨(e6 g e).1, Nat.lt_of_lt_of_le (e6 g e).2 h1⟩, h2, e8⟩
set_option maxHeartbeats 4000000 in
theorem sdj_in {v : Value} {x : Jb.J} {o : Int} {w : World} (h : JIn w v x) :
    Calls Try.prog 24 #[v, .int .i64 o] w fun e w' => ∃ u, e = .returned (.tuple #[u, .bool (doB x o)]) ∧ Below w.heap.size w w' ∧ JR w' w.heap.size w'.heap.size u (doV x o) := by
  obtain ⟨a, b, p, r, c, d, e, t, rfl, hc, hd, ra, rb, rp, rr⟩ := h.ex
  obtain ⟨W, hW⟩ : ∃ W, W = (w.alloc (.cells #[.slice a x.xs.length c, .slice b x.ws.length d, .slice p x.L.length e, .slice r x.M.length t, .int .i64 x.f] 25)).alloc (.cells #[.slice none 0 0, .slice none 0 0, .slice none 0 0, .slice none 0 0, .int .i64 0] 25) := ⟨_, rfl⟩
  have hs1 : (w.alloc (.cells #[.slice a x.xs.length c, .slice b x.ws.length d, .slice p x.L.length e, .slice r x.M.length t, .int .i64 x.f] 25)).heap.size = w.heap.size + 1 := World.size_alloc _ _
  have JK : JW W w.heap.size 25 (.slice a x.xs.length c) (.slice b x.ws.length d) (.slice p x.L.length e) (.slice r x.M.length t) (.int .i64 x.f) := by rw [hW]; exact (JW.new w _ _ _ _ _ _).alloc _
  have JR : JW W (w.heap.size + 1) 25 (.slice none 0 0) (.slice none 0 0) (.slice none 0 0) (.slice none 0 0) (.int .i64 0) := by rw [hW, ← hs1]; exact JW.new _ _ _ _ _ _ _
  have BW : Below w.heap.size w W := by rw [hW]; exact (below_new w _).trans ((below_new _ _).mono (by omega))
  have HG := hide (sgj_in (h.below BW) rfl)
  have HR := hide (⟨ra.below BW, rb.below BW, rp.below BW, rr.below BW⟩ : _ ∧ _ ∧ _ ∧ _)
  obtain ⟨k0, k1, k2, k3, k4⟩ := JK.cells
  have HJR := hide JR
  have HJK := hide JK
  have HBW := hide BW
  have HW := hide hW.symm
  clear h ra rb rp rr JK JR BW hs1 hW
  go_enter Try.func24, Try.ntmps24
  go_upto_region 1 with fail
  rw [HW.out]
  clear HW
  go_wp2_with fail
  refine HG.out.mono ?_
  rintro _ w1 ⟨rfl, hb1⟩
  clear k0 k1 k2 k3 k4
  cases hg : goodJ x
  · obtain ⟨e1, e2⟩ := do_no1 (o := o) hg
    have HBF := hide ((HBW.out.trans (hb1.mono HBW.out.size)).trans (put5_below (w := w1) (B := w.heap.size + 1) (a := .slice none 0 0) (b := .slice none 0 0) (l := .slice none 0 0) (m := .slice none 0 0) (f := .int .i64 0) (Nat.le_succ _)))
    have J1 := HJR.out.below hb1
    obtain ⟨q0, q1, q2, q3, q4⟩ := J1.cells
    have z0 := J1.fz 0
    have z1 := J1.fz 1
    have z2 := J1.fz 2
    have z3 := J1.fz 3
    have z4 := J1.fz 4
    have HJ9 := hide (J1.put5 (.slice none 0 0) (.slice none 0 0) (.slice none 0 0) (.slice none 0 0) (.int .i64 0)).cells
    clear hb1 J1
    go_wp2_with fail
    show bodyPost _ _ _ _ _ (put5 w1 (w.heap.size + 1) (.slice none 0 0) (.slice none 0 0) (.slice none 0 0) (.slice none 0 0) (.int .i64 0))
    generalize put5 w1 (w.heap.size + 1) (.slice none 0 0) (.slice none 0 0) (.slice none 0 0) (.slice none 0 0) (.int .i64 0) = Wf at *
    obtain ⟨k0, k1, k2, k3, k4⟩ := HJ9.out
    exact bodyPost_ret (v := .tuple #[.agg #[.slice none 0 0, .slice none 0 0, .slice none 0 0, .slice none 0 0, .int .i64 0], .bool false]) (by simp [results, Try.results24, go_sem, k0, k1, k2, k3, k4]) rfl ⟨_, by rw [e1], HBF.out, by rw [e2]; exact JR.zero _ _ _ (Nat.le_refl _)⟩
  · have hft := Jb.good_fit hg
    obtain ⟨hs, hn, hm6⟩ := good_same16 hg
    have h2 := hft.two
    have HC := hide (sow_any (x := x) (w := w1) (ca := c) (cb := d) (cp := e) (cm := t) (by omega) (by have := h2.2.2; simp at this; omega) (by have := hft.few; simp at this; omega) (by omega) (HR.out.1.below hb1) (HR.out.2.1.below hb1) (HR.out.2.2.1.below hb1) (HR.out.2.2.2.below hb1))
    have J1 := HJR.out.below hb1
    have HJ1 := hide J1
    obtain ⟨k0, k1, k2, k3, k4⟩ := (HJK.out.below hb1).cells
    have HB1 := hide (HBW.out.trans (hb1.mono HBW.out.size))
    have HF := hide hft
    clear hb1 hs hn hm6 h2 J1 HR HG
    go_wp2_with fail
    refine HC.out.mono ?_
    rintro _ w2 ⟨va, vb, vl, vm, rfl, hb2, hv⟩
    have HT := hide (sdo_any (o := o) hv hb2.size HF.out)
    have HLO := hide HB1.out.size
    have HB2 := hide (HB1.out.trans (hb2.mono HB1.out.size))
    have HJ2 := hide (⟨HJ1.out.lt, HJ1.out.below hb2⟩ : (w.heap.size + 1 < w1.heap.size ∧ JW w2 (w.heap.size + 1) 25 (.slice none 0 0) (.slice none 0 0) (.slice none 0 0) (.slice none 0 0) (.int .i64 0)))
    clear hb2 hv HC HJ1 HJR HJK k0 k1 k2 k3 k4
    go_wp2_with fail
    refine HT.out.mono ?_
    rintro _ w3 ⟨u, rfl, hb3, hj⟩
    obtain ⟨a9, b9, l9, m9, rfl, g1, g2, g3, g4, g5⟩ := hj.ex
    obtain ⟨u1, t1, rfl⟩ := own_f16 g1
    obtain ⟨u2, t2, rfl⟩ := own_f16 g2
    obtain ⟨u3, t3, rfl, _⟩ := g3.row
    obtain ⟨u4, t4, rfl, _⟩ := g4.row
    have HB3 := hide (HB2.out.trans (hb3.mono HLO.out))
    have J3 : JW w3 (w.heap.size + 1) 25 _ _ _ _ _ := (hb3.block _ HJ2.out.1).trans HJ2.out.2
    have hres := HJ2.out.1
    clear HT HB2 hb3 HJ2 g1 g2 g3 g4 g5
    have J4 := J3.alloc (.cells #[.slice u1 (Jb.oneJ x o).xs.length t1, .slice u2 (Jb.oneJ x o).ws.length t2, .slice u3 (Jb.oneJ x o).L.length t3, .slice u4 (Jb.oneJ x o).M.length t4, .int .i64 (Jb.oneJ x o).f] 25)
    have hb4 := below_new w3 (.cells #[.slice u1 (Jb.oneJ x o).xs.length t1, .slice u2 (Jb.oneJ x o).ws.length t2, .slice u3 (Jb.oneJ x o).L.length t3, .slice u4 (Jb.oneJ x o).M.length t4, .int .i64 (Jb.oneJ x o).f] 25)
    have hj4 := hj.below hb4
    have HB4 := hide (HB3.out.trans (hb4.mono HB3.out.size))
    have J1 := J4
    have ho4 : (Jb.doJ x o).isSome = (doB x o) := by unfold doB; rw [hg]; rfl
    cases hd : (Jb.doJ x o).isSome
    · have e1 : doB x o = false := by rw [← ho4, hd]
      have e2 : doV x o = zeroJ := (do_no2 (by cases h : Jb.doJ x o with | none => rfl | some y => rw [h] at hd; cases hd)).2
      have HBF := hide (HB4.out.trans (put5_below (w := (w3.alloc (.cells #[.slice u1 (Jb.oneJ x o).xs.length t1, .slice u2 (Jb.oneJ x o).ws.length t2, .slice u3 (Jb.oneJ x o).L.length t3, .slice u4 (Jb.oneJ x o).M.length t4, .int .i64 (Jb.oneJ x o).f] 25))) (B := w.heap.size + 1) (a := .slice none 0 0) (b := .slice none 0 0) (l := .slice none 0 0) (m := .slice none 0 0) (f := .int .i64 0) (Nat.le_succ _)))
      clear hj hj4 ho4 hd J3 J4
      obtain ⟨q0, q1, q2, q3, q4⟩ := J1.cells
      have z0 := J1.fz 0
      have z1 := J1.fz 1
      have z2 := J1.fz 2
      have z3 := J1.fz 3
      have z4 := J1.fz 4
      have HJ9 := hide (J1.put5 (.slice none 0 0) (.slice none 0 0) (.slice none 0 0) (.slice none 0 0) (.int .i64 0)).cells
      clear J1 hb4
      go_wp2_with fail
      show bodyPost _ _ _ _ _ (put5 (w3.alloc (.cells #[.slice u1 (Jb.oneJ x o).xs.length t1, .slice u2 (Jb.oneJ x o).ws.length t2, .slice u3 (Jb.oneJ x o).L.length t3, .slice u4 (Jb.oneJ x o).M.length t4, .int .i64 (Jb.oneJ x o).f] 25)) (w.heap.size + 1) (.slice none 0 0) (.slice none 0 0) (.slice none 0 0) (.slice none 0 0) (.int .i64 0))
      generalize put5 (w3.alloc (.cells #[.slice u1 (Jb.oneJ x o).xs.length t1, .slice u2 (Jb.oneJ x o).ws.length t2, .slice u3 (Jb.oneJ x o).L.length t3, .slice u4 (Jb.oneJ x o).M.length t4, .int .i64 (Jb.oneJ x o).f] 25)) (w.heap.size + 1) (.slice none 0 0) (.slice none 0 0) (.slice none 0 0) (.slice none 0 0) (.int .i64 0) = Wf at *
      obtain ⟨k0, k1, k2, k3, k4⟩ := HJ9.out
      exact bodyPost_ret (v := .tuple #[.agg #[.slice none 0 0, .slice none 0 0, .slice none 0 0, .slice none 0 0, .int .i64 0], .bool false]) (by simp [results, Try.results24, go_sem, k0, k1, k2, k3, k4]) rfl ⟨_, by rw [e1], HBF.out, by rw [e2]; exact JR.zero _ _ _ (Nat.le_refl _)⟩
    · have e1 : doB x o = true := by rw [← ho4, hd]
      have e2 : doV x o = Jb.oneJ x o := by unfold doV Jb.oneJ; rw [hg]; cases h : Jb.doJ x o with | none => rw [h] at hd; cases hd | some y => rfl
      have HBF := hide (HB4.out.trans (put5_below (w := (w3.alloc (.cells #[.slice u1 (Jb.oneJ x o).xs.length t1, .slice u2 (Jb.oneJ x o).ws.length t2, .slice u3 (Jb.oneJ x o).L.length t3, .slice u4 (Jb.oneJ x o).M.length t4, .int .i64 (Jb.oneJ x o).f] 25))) (B := w.heap.size + 1) (a := .slice u1 (Jb.oneJ x o).xs.length t1) (b := .slice u2 (Jb.oneJ x o).ws.length t2) (l := .slice u3 (Jb.oneJ x o).L.length t3) (m := .slice u4 (Jb.oneJ x o).M.length t4) (f := .int .i64 (Jb.oneJ x o).f) (Nat.le_succ _)))
      have HJ8 := hide (((hj4.keep (w' := put5 (w3.alloc (.cells #[.slice u1 (Jb.oneJ x o).xs.length t1, .slice u2 (Jb.oneJ x o).ws.length t2, .slice u3 (Jb.oneJ x o).L.length t3, .slice u4 (Jb.oneJ x o).M.length t4, .int .i64 (Jb.oneJ x o).f] 25)) (w.heap.size + 1) (.slice u1 (Jb.oneJ x o).xs.length t1) (.slice u2 (Jb.oneJ x o).ws.length t2) (.slice u3 (Jb.oneJ x o).L.length t3) (.slice u4 (Jb.oneJ x o).M.length t4) (.int .i64 (Jb.oneJ x o).f)) (by rw [put5_size]; exact Nat.le_refl _) fun g g1 _ => put5_same (by omega)).low HLO.out).up (hi' := (put5 (w3.alloc (.cells #[.slice u1 (Jb.oneJ x o).xs.length t1, .slice u2 (Jb.oneJ x o).ws.length t2, .slice u3 (Jb.oneJ x o).L.length t3, .slice u4 (Jb.oneJ x o).M.length t4, .int .i64 (Jb.oneJ x o).f] 25)) (w.heap.size + 1) (.slice u1 (Jb.oneJ x o).xs.length t1) (.slice u2 (Jb.oneJ x o).ws.length t2) (.slice u3 (Jb.oneJ x o).L.length t3) (.slice u4 (Jb.oneJ x o).M.length t4) (.int .i64 (Jb.oneJ x o).f)).heap.size) (by rw [put5_size]; exact hb4.size) (Nat.le_refl _))
      clear hj hj4 ho4 hd J3 J4
      obtain ⟨q0, q1, q2, q3, q4⟩ := J1.cells
      have z0 := J1.fz 0
      have z1 := J1.fz 1
      have z2 := J1.fz 2
      have z3 := J1.fz 3
      have z4 := J1.fz 4
      have HJ9 := hide (J1.put5 (.slice u1 (Jb.oneJ x o).xs.length t1) (.slice u2 (Jb.oneJ x o).ws.length t2) (.slice u3 (Jb.oneJ x o).L.length t3) (.slice u4 (Jb.oneJ x o).M.length t4) (.int .i64 (Jb.oneJ x o).f)).cells
      clear J1 hb4
      go_wp2_with fail
      show bodyPost _ _ _ _ _ (put5 (w3.alloc (.cells #[.slice u1 (Jb.oneJ x o).xs.length t1, .slice u2 (Jb.oneJ x o).ws.length t2, .slice u3 (Jb.oneJ x o).L.length t3, .slice u4 (Jb.oneJ x o).M.length t4, .int .i64 (Jb.oneJ x o).f] 25)) (w.heap.size + 1) (.slice u1 (Jb.oneJ x o).xs.length t1) (.slice u2 (Jb.oneJ x o).ws.length t2) (.slice u3 (Jb.oneJ x o).L.length t3) (.slice u4 (Jb.oneJ x o).M.length t4) (.int .i64 (Jb.oneJ x o).f))
      generalize put5 (w3.alloc (.cells #[.slice u1 (Jb.oneJ x o).xs.length t1, .slice u2 (Jb.oneJ x o).ws.length t2, .slice u3 (Jb.oneJ x o).L.length t3, .slice u4 (Jb.oneJ x o).M.length t4, .int .i64 (Jb.oneJ x o).f] 25)) (w.heap.size + 1) (.slice u1 (Jb.oneJ x o).xs.length t1) (.slice u2 (Jb.oneJ x o).ws.length t2) (.slice u3 (Jb.oneJ x o).L.length t3) (.slice u4 (Jb.oneJ x o).M.length t4) (.int .i64 (Jb.oneJ x o).f) = Wf at *
      obtain ⟨k0, k1, k2, k3, k4⟩ := HJ9.out
      exact bodyPost_ret (v := .tuple #[.agg #[.slice u1 (Jb.oneJ x o).xs.length t1, .slice u2 (Jb.oneJ x o).ws.length t2, .slice u3 (Jb.oneJ x o).L.length t3, .slice u4 (Jb.oneJ x o).M.length t4, .int .i64 (Jb.oneJ x o).f], .bool true]) (by simp [results, Try.results24, go_sem, k0, k1, k2, k3, k4]) rfl ⟨_, by rw [e1], HBF.out, by rw [e2]; exact HJ8.out⟩
theorem JV.same {w wf : World} {lo : Nat} {a b l m : Value} {x : Jb.J} (h : JV w lo a b l m x) (hf : ∀ g, lo ≤ g → wf.heap[g]? = w.heap[g]?) : JV wf lo a b l m x :=
  { h with oa := own_keep2 h.oa fun g e _ => hf g (h.oa.lt g e).1, ob := own_keep2 h.ob fun g e _ => hf g (h.ob.lt g e).1, ol := own_keep2 h.ol fun g e _ => hf g (h.ol.lt g e).1, om := own_keep2 h.om fun g e _ => hf g (h.om.lt g e).1 }
set_option maxHeartbeats 4000000 in
theorem snj_w {a b : Option Addr} {n m c d : Nat} {xs ws : List Int} {w : World} (hx : xs.length = n) (hy : ws.length = m) (hc : n ≤ c) (hd : m ≤ d) (ha : ARow w a xs) (hb : ARow w b ws) :
    Calls Try.prog 9 #[.slice a n c, .slice b m d] w fun e w' => ∃ va vb vl vm, e = .returned (.tuple #[.agg #[va, vb, vl, vm, .int .i64 0], .bool (Mx.sameB xs ws)]) ∧ Below w.heap.size w w' ∧ JV w' w.heap.size va vb vl vm (newV xs ws) := by
  have JR0 := JW.new w 25 (.slice none 0 0) (.slice none 0 0) (.slice none 0 0) (.slice none 0 0) (.int .i64 0)
  have BW := below_new w (.cells #[.slice none 0 0, .slice none 0 0, .slice none 0 0, .slice none 0 0, .int .i64 0] 25)
  have hsz : (w.alloc (.cells #[.slice none 0 0, .slice none 0 0, .slice none 0 0, .slice none 0 0, .int .i64 0] 25)).heap.size = w.heap.size + 1 := World.size_alloc _ _
  generalize hW : w.alloc (.cells #[.slice none 0 0, .slice none 0 0, .slice none 0 0, .slice none 0 0, .int .i64 0] 25) = W at *
  have HP := hide (spm_o (w := W) hx hy hc hd (ha.below BW) (hb.below BW))
  have HA := hide (⟨ha, hb⟩ : _ ∧ _)
  have HX := hide (⟨hx, hy⟩ : _ ∧ _)
  have HJR := hide JR0
  have HBW := hide BW
  have HSZ := hide hsz
  have HW := hide hW
  clear JR0 BW ha hb hx hy hsz hW
  go_enter Try.func9, Try.ntmps9
  go_upto_region 1 with fail
  rw [HW.out]
  clear HW
  go_wp2_with fail
  refine HP.out.mono ?_
  rintro e w1 ⟨vl, rfl, hb1, hol⟩
  obtain ⟨u3, t3, rfl⟩ := own_f16 hol
  clear HP
  cases hs : Mx.sameB xs ws
  · have e1 := new_no hs
    have HBF := hide ((HBW.out.trans (hb1.mono HBW.out.size)).trans (put5_below (w := w1) (B := w.heap.size) (a := .slice none 0 0) (b := .slice none 0 0) (l := .slice none 0 0) (m := .slice none 0 0) (f := .int .i64 0) (Nat.le_refl _)))
    have J1 := HJR.out.below hb1
    obtain ⟨q0, q1, q2, q3, q4⟩ := J1.cells
    have z0 := J1.fz 0
    have z1 := J1.fz 1
    have z2 := J1.fz 2
    have z3 := J1.fz 3
    have z4 := J1.fz 4
    have HJ9 := hide (J1.put5 (.slice none 0 0) (.slice none 0 0) (.slice none 0 0) (.slice none 0 0) (.int .i64 0)).cells
    clear hb1 J1 hol
    go_wp2_with fail
    show bodyPost _ _ _ _ _ (put5 w1 w.heap.size (.slice none 0 0) (.slice none 0 0) (.slice none 0 0) (.slice none 0 0) (.int .i64 0))
    generalize put5 w1 w.heap.size (.slice none 0 0) (.slice none 0 0) (.slice none 0 0) (.slice none 0 0) (.int .i64 0) = Wf at *
    obtain ⟨k0, k1, k2, k3, k4⟩ := HJ9.out
    exact bodyPost_ret (v := .tuple #[.agg #[.slice none 0 0, .slice none 0 0, .slice none 0 0, .slice none 0 0, .int .i64 0], .bool false]) (by simp [results, Try.results9, go_sem, k0, k1, k2, k3, k4]) rfl ⟨_, _, _, _, by rw [hs], HBF.out, by rw [e1]; exact JV.zero _ _⟩
  · have e1 := new_yes hs
    have hl := Mx.good_len (Mx.same_good hs).1
    have hl2 := (Mx.same_good hs).2.2.length_eq
    obtain ⟨x1, x2⟩ := HX.out
    have B1 := HBW.out.trans (hb1.mono HBW.out.size)
    have hfr : FRow w1 u3 (Mx.pmL xs ws) := by
      obtain ⟨a', c', e', hr'⟩ := (mo_own rfl hol).mv.row
      cases e'
      exact hr'
    have hso := sow_any (x := Jb.newJ xs ws) (w := w1) (aa := a) (ab := b) (ap := u3) (am := none) (ca := c) (cb := d) (cp := t3) (cm := 0) (by show xs.length ≤ 1000; omega) (by show ws.length ≤ 1000; omega) (by show (Mx.pmL xs ws).length ≤ 1000; have := pmL_le xs ws; omega) (by show ([] : List (Int × Int)).length ≤ 1000; simp) (HA.out.1.below B1) (HA.out.2.below B1) hfr (Or.inl rfl)
    rw [show (Jb.newJ xs ws).xs.length = n from x1, show (Jb.newJ xs ws).ws.length = m from x2, show (Jb.newJ xs ws).L.length = (Mx.pmL xs ws).length from rfl, show (Jb.newJ xs ws).M.length = 0 from rfl, show (Jb.newJ xs ws).f = 0 from rfl] at hso
    have HSO := hide hso
    have HB1 := hide B1
    have J1 := hide (HJR.out.below hb1)
    have HSL := hide (show w.heap.size < w1.heap.size by have := HSZ.out; have := hb1.size; omega)
    have HXX := hide (⟨x1, x2⟩ : _ ∧ _)
    clear hso hb1 hol hfr B1 hl hl2 x1 x2 HX HA
    go_wp2_with fail
    refine HSO.out.mono ?_
    rintro e w3 ⟨va, vb, vl, vm, rfl, gb3, hv⟩
    have f1 := hv.oa
    have f2 := hv.ob
    have f3 := hv.ol
    have f4 := hv.om
    rw [show (Jb.newJ xs ws).xs.length = n from HXX.out.1] at f1
    rw [show (Jb.newJ xs ws).ws.length = m from HXX.out.2] at f2
    rw [show (Jb.newJ xs ws).L.length = (Mx.pmL xs ws).length from rfl] at f3
    rw [show (Jb.newJ xs ws).M.length = 0 from rfl] at f4
    obtain ⟨u1, t1, rfl⟩ := own_f16 f1
    obtain ⟨u2, t2, rfl⟩ := own_f16 f2
    obtain ⟨v3, t3', rfl⟩ := own_f16 f3
    obtain ⟨u4, t4, rfl⟩ := own_f16 f4
    clear f1 f2 f3 f4
    have J3 := J1.out.below gb3
    have HBF := hide ((HB1.out.trans (gb3.mono HB1.out.size)).trans (put5_below (w := w3) (B := w.heap.size) (a := .slice u1 n t1) (b := .slice u2 m t2) (l := .slice v3 (Mx.pmL xs ws).length t3') (m := .slice u4 0 t4) (f := .int .i64 0) (Nat.le_refl _)))
    have HJV := hide ((hv.same (wf := put5 w3 w.heap.size (.slice u1 n t1) (.slice u2 m t2) (.slice v3 (Mx.pmL xs ws).length t3') (.slice u4 0 t4) (.int .i64 0)) (fun g hg => put5_same (by have := HSL.out; omega))).low (Nat.le_of_lt HSL.out))
    obtain ⟨q0, q1, q2, q3, q4⟩ := J3.cells
    have z0 := J3.fz 0
    have z1 := J3.fz 1
    have z2 := J3.fz 2
    have z3 := J3.fz 3
    have z4 := J3.fz 4
    have HJ9 := hide (J3.put5 (.slice u1 n t1) (.slice u2 m t2) (.slice v3 (Mx.pmL xs ws).length t3') (.slice u4 0 t4) (.int .i64 0)).cells
    clear gb3 J3 hv HSO J1
    go_wp2_with fail
    show bodyPost _ _ _ _ _ (put5 w3 w.heap.size (.slice u1 n t1) (.slice u2 m t2) (.slice v3 (Mx.pmL xs ws).length t3') (.slice u4 0 t4) (.int .i64 0))
    generalize put5 w3 w.heap.size (.slice u1 n t1) (.slice u2 m t2) (.slice v3 (Mx.pmL xs ws).length t3') (.slice u4 0 t4) (.int .i64 0) = Wf at *
    obtain ⟨k0, k1, k2, k3, k4⟩ := HJ9.out
    exact bodyPost_ret (v := .tuple #[.agg #[.slice u1 n t1, .slice u2 m t2, .slice v3 (Mx.pmL xs ws).length t3', .slice u4 0 t4, .int .i64 0], .bool true]) (by simp [results, Try.results9, go_sem, k0, k1, k2, k3, k4]) rfl ⟨_, _, _, _, by rw [hs], HBF.out, by rw [e1]; exact HJV.out⟩
end Go.Proofs.Ytnjkdfeajlnojaa
namespace Go.Proofs.Ytnjkdfeajlnojaa
open Go.RowKit

def plB (xs ws os : List Int) : Bool := Mx.sameB xs ws && decide (os.length ≤ 60)
def plV (xs ws os : List Int) : Jb.J := if plB xs ws os then (Jb.playJ (Jb.newJ xs ws) os).1 else zeroJ
def plD (xs ws os : List Int) : List Bool := if plB xs ws os then (Jb.playJ (Jb.newJ xs ws) os).2 else []
theorem pl_no {xs ws os : List Int} (h : plB xs ws os = false) : plV xs ws os = zeroJ ∧ plD xs ws os = [] := by unfold plV plD; rw [h]; exact ⟨rfl, rfl⟩
theorem pl_yes {xs ws os : List Int} (h : plB xs ws os = true) : plV xs ws os = (Jb.playJ (Jb.newJ xs ws) os).1 ∧ plD xs ws os = (Jb.playJ (Jb.newJ xs ws) os).2 := by unfold plV plD; rw [h]; exact ⟨rfl, rfl⟩
def bools (l : List Bool) : List Value := l.map Value.bool
theorem bools_len (l : List Bool) : (bools l).length = l.length := by simp [bools]
theorem push_b16 {w : World} {base n : Nat} {v : Value} {xs : List Value} {x : Bool} (hown : w.ownsRow base 4 1 v n xs) (hn : n ≤ 1048576) (hb : base ≤ w.heap.size) :
    ∃ g cap w', (∀ ty, (Builtin.append_ #[47, 47] ty #[v, .slice (some ⟨w.heap.size, 0, none⟩) 1 1]).run Try.prog (w.alloc (.cells #[.bool x] 4)) = .ok (.slice (some ⟨g, 0, none⟩) (n + 1) cap) w') ∧ w'.ownsRow base 4 1 (.slice (some ⟨g, 0, none⟩) (n + 1) cap) (n + 1) (xs ++ [.bool x]) ∧ w.grownBy w' v.ownBlock ∧ (v.ownBlock = some g ∨ w.heap.size ≤ g) := by
  have h : (Try.prog.info? 4).map (fun i => (i.zero, i.size, i.bytes)) = some (some (.bool false), 1, 1) := by kernel_rfl
  obtain ⟨i0, hi, hzz⟩ := Option.map_eq_some_iff.1 h
  simp only [Prod.mk.injEq] at hzz
  obtain ⟨hz0, hz1, hz2⟩ := hzz
  obtain ⟨g, cap, w', h1, h2, h3, h4, _⟩ := run_append_lies (P := Try.prog) (w := w.alloc (.cells #[.bool x] 4)) 47 0 base 4 i0 _ 1 1 Try.underlying47 hi hz0 hz1 hz2 rfl (by decide) v n xs (hown.alloc _) ⟨w.heap.size, 0, none⟩ 1 1 [.bool x] rfl (fun j u hj => by
      have hj2 : j = 0 := by
        have := (List.getElem?_eq_some_iff.1 hj).1
        simp at this; omega
      rw [add_plain']
      subst hj2
      simp at hj; subst hj; simp) (fun u hu => by simp at hu; subst hu; rfl) (by omega) (by unfold maxLen; omega) (by omega) (by simp; omega) _ rfl
  refine ⟨g, cap, w', fun _ => h1, h2, ?_, ?_⟩
  · have hg := World.grownBy_alloc w (.cells #[.bool x] 4) v.ownBlock
    exact ⟨h3.os.trans hg.os, h3.tape.trans hg.tape, h3.output.trans hg.output, Nat.le_trans hg.size h3.size, fun b hb hne => (h3.block b (Nat.lt_of_lt_of_le hb hg.size) hne).trans (hg.block b hb hne)⟩
  · rcases h4 with h4 | h4
    · exact Or.inl h4
    · exact Or.inr (by rw [h4]; simp)
/-- The blocks that a job's value lies in. -/
def Blk (a b l m : Value) (x : Jb.J) (g : Nat) : Prop := a.ownBlock = some g ∨ b.ownBlock = some g ∨ moB l x.L.length = some g ∨ moB m x.M.length = some g
/-- A job of one's own in a variable, and a list of one's own beside it. -/
structure JL (w : World) (lo B : Nat) (d : Value) (x : Jb.J) (a b l m : Value) : Prop where
  jw : JW w B 25 a b l m (.int .i64 x.f)
  jr : JR w lo w.heap.size (.agg #[a, b, l, m, .int .i64 x.f]) x
  nB : ∀ g, Blk a b l m x g → g ≠ B ∧ d.ownBlock ≠ some g
  dB : d.ownBlock ≠ some B
theorem JR.blk {w : World} {lo hi : Nat} {a b l m : Value} {x : Jb.J} (h : JR w lo hi (.agg #[a, b, l, m, .int .i64 x.f]) x) : ∀ g, Blk a b l m x g → lo ≤ g ∧ g < hi := by
  obtain ⟨a', b', l', m', e, _, _, _, _, h6, _⟩ := h.ex
  cases e
  exact h6
theorem JR.keepB {w w' : World} {lo hi : Nat} {a b l m : Value} {x : Jb.J} (h : JR w lo hi (.agg #[a, b, l, m, .int .i64 x.f]) x) (hs : w.heap.size ≤ w'.heap.size) (hb : ∀ g, Blk a b l m x g → w'.heap[g]? = w.heap[g]?) : JR w' lo hi (.agg #[a, b, l, m, .int .i64 x.f]) x := by
  obtain ⟨a', b', l', m', e, h2, h3, h4, h5, h6, h7, h8⟩ := h.ex
  cases e
  exact ⟨a, b, l, m, rfl, own_keep2 h2 (fun g e _ => hb g (Or.inl e)), own_keep2 h3 (fun g e _ => hb g (Or.inr (Or.inl e))), h4.keep hs (fun g e => hb g (Or.inr (Or.inr (Or.inl e)))), h5.keep hs (fun g e => hb g (Or.inr (Or.inr (Or.inr e)))), h6, Nat.le_trans h7 hs, h8⟩
/-- The list beside it has grown, and more lies behind. -/
theorem JL.grown {w w1 w2 : World} {lo B : Nat} {d d' : Value} {x : Jb.J} {a b l m : Value} (h : JL w lo B d x a b l m) (hb : Below w.heap.size w w1) (hg : w1.grownBy w2 d.ownBlock) (hd : ∀ g, d'.ownBlock = some g → d.ownBlock = some g ∨ w1.heap.size ≤ g) : JL w2 lo B d' x a b l m := by
  have hl := h.jr.blk
  have hlt := h.jw.lt
  have s1 := hb.size
  refine ⟨((h.jw.below hb).keep (hg.block B (by omega) fun e => h.dB e.symm)), ((h.jr.below hb).keepB hg.size fun g e => hg.block g (by have := (hl g e).2; omega) fun e' => (h.nB g e).2 e'.symm).up (Nat.le_trans s1 hg.size) (Nat.le_refl _), fun g e => ⟨(h.nB g e).1, fun e' => ?_⟩, fun e => ?_⟩
  · rcases hd g e' with h1 | h1
    · exact (h.nB g e).2 h1
    · have := (hl g e).2; omega
  · rcases hd B e with h1 | h1
    · exact h.dB h1
    · omega
/-- Another job, made behind, has been put into the variable. -/
theorem JL.put {w w3 w4 w2 : World} {lo B : Nat} {d d' : Value} {x y : Jb.J} {a b l m a' b' l' m' : Value} (h : JL w lo B d x a b l m) (hlo : lo ≤ w.heap.size) (hdl : ∀ g, d.ownBlock = some g → g < w.heap.size) (hb3 : Below w.heap.size w w3) (hj : JR w3 w.heap.size w3.heap.size (.agg #[a', b', l', m', .int .i64 y.f]) y) (hb4 : Below w3.heap.size w3 w4)
    (hg : (put5 w4 B a' b' l' m' (.int .i64 y.f)).grownBy w2 d.ownBlock) (hd : ∀ g, d'.ownBlock = some g → d.ownBlock = some g ∨ w4.heap.size ≤ g) : JL w2 lo B d' y a' b' l' m' := by
  have hl := hj.blk
  have hlt := h.jw.lt
  have s3 := hb3.size
  have s4 := hb4.size
  have s5 := hg.size
  rw [put5_size] at s5
  have hjw : JW (put5 w4 B a' b' l' m' (.int .i64 y.f)) B 25 a' b' l' m' (.int .i64 y.f) := ((h.jw.below hb3).below hb4).put5 _ _ _ _ _
  refine ⟨hjw.keep (hg.block B (by rw [put5_size]; omega) fun e => h.dB e.symm), (((hj.below hb4).keepB (by omega) fun g e => ?_).low hlo).up (by omega) (Nat.le_refl _), fun g e => ⟨fun e' => ?_, fun e' => ?_⟩, fun e => ?_⟩
  · have := hl g e
    exact (hg.block g (by rw [put5_size]; omega) (fun e' => by have := hdl g e'.symm; omega)).trans (put5_same (by omega))
  · have := (hl g e).1; omega
  · rcases hd g e' with h1 | h1
    · have := hdl g h1; have := (hl g e).1; omega
    · have := (hl g e).2; omega
  · rcases hd B e with h1 | h1
    · exact h.dB h1
    · omega
/-- What playing answers: the job and which orders were done, each of its own. -/
def PlAns (w : World) (xs ws os : List Int) (r : Ending) (w' : World) : Prop := ∃ a b l m d, r = .returned (.tuple #[.agg #[a, b, l, m, .int .i64 (plV xs ws os).f], d, .bool (plB xs ws os)]) ∧ Below w.heap.size w w' ∧ JR w' w.heap.size w'.heap.size (.agg #[a, b, l, m, .int .i64 (plV xs ws os).f]) (plV xs ws os) ∧ w'.ownsRow w.heap.size 4 1 d (plD xs ws os).length (bools (plD xs ws os)) ∧ ∀ g, Blk a b l m (plV xs ws os) g → d.ownBlock ≠ some g
theorem PlAns.zero {w w' : World} {xs ws os : List Int} (h : plB xs ws os = false) (hb : Below w.heap.size w w') : PlAns w xs ws os (.returned (.tuple #[.agg #[.slice none 0 0, .slice none 0 0, .slice none 0 0, .slice none 0 0, .int .i64 0], .slice none 0 0, .bool false])) w' := by
  obtain ⟨e1, e2⟩ := pl_no h
  refine ⟨.slice none 0 0, .slice none 0 0, .slice none 0 0, .slice none 0 0, .slice none 0 0, ?_, hb, ?_, ?_, ?_⟩
  · rw [e1, h]; rfl
  · rw [e1]; exact JR.zero _ _ _ (Nat.le_refl _)
  · rw [e2]; exact World.ownsRow_nil _ _ _ _
  · intro g _ e; simp [Value.ownBlock] at e
set_option maxRecDepth 100000 in
set_option maxHeartbeats 8000000 in
theorem spj_w {a b p : Option Addr} {n m q c d e : Nat} {xs ws os : List Int} {w : World} (hx : xs.length = n) (hy : ws.length = m) (ho : os.length = q) (hc : n ≤ c) (hd : m ≤ d) (ha : ARow w a xs) (hb : ARow w b ws) (hp : ARow w p os) (hql : q ≤ 1048576) :
    Calls Try.prog 26 #[.slice a n c, .slice b m d, .slice p q e] w fun r w' => PlAns w xs ws os r w' := by
  have JR0 := JW.new w 25 (.slice none 0 0) (.slice none 0 0) (.slice none 0 0) (.slice none 0 0) (.int .i64 0)
  have BW := below_new w (.cells #[.slice none 0 0, .slice none 0 0, .slice none 0 0, .slice none 0 0, .int .i64 0] 25)
  have hsz : (w.alloc (.cells #[.slice none 0 0, .slice none 0 0, .slice none 0 0, .slice none 0 0, .int .i64 0] 25)).heap.size = w.heap.size + 1 := World.size_alloc _ _
  generalize hW : w.alloc (.cells #[.slice none 0 0, .slice none 0 0, .slice none 0 0, .slice none 0 0, .int .i64 0] 25) = W at *
  have HN := hide (snj_w (w := W) hx hy hc hd (ha.below BW) (hb.below BW))
  have HO := hide (hp.below BW)
  have HX := hide (⟨hx, hy, ho⟩ : _ ∧ _ ∧ _)
  have HJR := hide JR0
  have HBW := hide BW
  have HSZ := hide hsz
  have HW := hide hW
  clear JR0 BW ha hb hp hx hy ho hsz hW
  go_enter Try.func26, Try.ntmps26
  go_upto_region 1 with fail
  rw [HW.out]
  clear HW
  go_wp2_with fail
  refine HN.out.mono ?_
  rintro r w1 ⟨va, vb, vl, vm, rfl, hb1, hv⟩
  clear HN
  cases hs : Mx.sameB xs ws
  · have hpl : plB xs ws os = false := by unfold plB; rw [hs]; rfl
    rw [new_no hs] at hv
    obtain ⟨u1, t1, rfl⟩ := own_f16 hv.oa
    obtain ⟨u2, t2, rfl⟩ := own_f16 hv.ob
    obtain ⟨u3, t3, rfl⟩ := own_f16 hv.ol
    obtain ⟨u4, t4, rfl⟩ := own_f16 hv.om
    have J1 := (HJR.out.below hb1).alloc (.cells #[.slice u1 zeroJ.xs.length t1, .slice u2 zeroJ.ws.length t2, .slice u3 zeroJ.L.length t3, .slice u4 zeroJ.M.length t4, .int .i64 0] 25)
    have hb2 := below_new w1 (.cells #[.slice u1 zeroJ.xs.length t1, .slice u2 zeroJ.ws.length t2, .slice u3 zeroJ.L.length t3, .slice u4 zeroJ.M.length t4, .int .i64 0] 25)
    have B1 := HBW.out.trans (hb1.mono HBW.out.size)
    have HBF := hide ((B1.trans (hb2.mono B1.size)).trans (put5_below (w := w1.alloc (.cells #[.slice u1 zeroJ.xs.length t1, .slice u2 zeroJ.ws.length t2, .slice u3 zeroJ.L.length t3, .slice u4 zeroJ.M.length t4, .int .i64 0] 25)) (B := w.heap.size) (a := .slice none 0 0) (b := .slice none 0 0) (l := .slice none 0 0) (m := .slice none 0 0) (f := .int .i64 0) (Nat.le_refl _)))
    obtain ⟨q0, q1, q2, q3, q4⟩ := J1.cells
    have z0 := J1.fz 0
    have z1 := J1.fz 1
    have z2 := J1.fz 2
    have z3 := J1.fz 3
    have z4 := J1.fz 4
    have HJ9 := hide (J1.put5 (.slice none 0 0) (.slice none 0 0) (.slice none 0 0) (.slice none 0 0) (.int .i64 0)).cells
    clear hb1 J1 hv hb2 B1
    have HPL := hide hpl
    clear hpl hs
    go_wp2_with fail
    show bodyPost _ _ _ _ _ (put5 (w1.alloc (.cells #[.slice u1 zeroJ.xs.length t1, .slice u2 zeroJ.ws.length t2, .slice u3 zeroJ.L.length t3, .slice u4 zeroJ.M.length t4, .int .i64 0] 25)) w.heap.size (.slice none 0 0) (.slice none 0 0) (.slice none 0 0) (.slice none 0 0) (.int .i64 0))
    generalize put5 (w1.alloc (.cells #[.slice u1 zeroJ.xs.length t1, .slice u2 zeroJ.ws.length t2, .slice u3 zeroJ.L.length t3, .slice u4 zeroJ.M.length t4, .int .i64 0] 25)) w.heap.size (.slice none 0 0) (.slice none 0 0) (.slice none 0 0) (.slice none 0 0) (.int .i64 0) = Wf at *
    obtain ⟨k0, k1, k2, k3, k4⟩ := HJ9.out
    exact bodyPost_ret (v := .tuple #[.agg #[.slice none 0 0, .slice none 0 0, .slice none 0 0, .slice none 0 0, .int .i64 0], .slice none 0 0, .bool false]) (by simp [results, Try.results26, go_sem, k0, k1, k2, k3, k4]) rfl (PlAns.zero HPL.out HBF.out)
  · have hl := Mx.good_len (Mx.same_good hs).1
    have hl2 := (Mx.same_good hs).2.2.length_eq
    obtain ⟨x1, x2, x3⟩ := HX.out
    have hlt : w.heap.size < w1.heap.size := by have := HSZ.out; have := hb1.size; omega
    have B1 := HBW.out.trans (hb1.mono HBW.out.size)
    rw [new_yes hs] at hv
    have hv' := hv
    have f1 := hv.oa
    have f2 := hv.ob
    have f3 := hv.ol
    have f4 := hv.om
    rw [show (Jb.newJ xs ws).xs.length = n from x1] at f1
    rw [show (Jb.newJ xs ws).ws.length = m from x2] at f2
    rw [show (Jb.newJ xs ws).L.length = (Mx.pmL xs ws).length from rfl] at f3
    rw [show (Jb.newJ xs ws).M.length = 0 from rfl] at f4
    obtain ⟨u1, t1, rfl⟩ := own_f16 f1
    obtain ⟨u2, t2, rfl⟩ := own_f16 f2
    obtain ⟨u3, t3, rfl⟩ := own_f16 f3
    obtain ⟨u4, t4, rfl⟩ := own_f16 f4
    clear f1 f2 f3 f4
    have J1 := (HJR.out.below hb1).alloc (.cells #[.slice u1 n t1, .slice u2 m t2, .slice u3 (Mx.pmL xs ws).length t3, .slice u4 0 t4, .int .i64 0] 25)
    have hb2 := below_new w1 (.cells #[.slice u1 n t1, .slice u2 m t2, .slice u3 (Mx.pmL xs ws).length t3, .slice u4 0 t4, .int .i64 0] 25)
    have B2 := B1.trans (hb2.mono B1.size)
    by_cases hq : 60 < q
    · have hpl : plB xs ws os = false := by unfold plB; rw [hs]; simp; omega
      have hqq : (60 : Int) < (q : Int) := by omega
      have HBF := hide (B2.trans (put5_below (w := w1.alloc (.cells #[.slice u1 n t1, .slice u2 m t2, .slice u3 (Mx.pmL xs ws).length t3, .slice u4 0 t4, .int .i64 0] 25)) (B := w.heap.size) (a := .slice none 0 0) (b := .slice none 0 0) (l := .slice none 0 0) (m := .slice none 0 0) (f := .int .i64 0) (Nat.le_refl _)))
      obtain ⟨q0, q1, q2, q3, q4⟩ := J1.cells
      have z0 := J1.fz 0
      have z1 := J1.fz 1
      have z2 := J1.fz 2
      have z3 := J1.fz 3
      have z4 := J1.fz 4
      have HJ9 := hide (J1.put5 (.slice none 0 0) (.slice none 0 0) (.slice none 0 0) (.slice none 0 0) (.int .i64 0)).cells
      have HPL := hide hpl
      clear hb1 J1 hv hv' hb2 B1 B2 hl hl2 x1 x2 x3 hlt hpl hs hq
      go_wp2_with fail
      show bodyPost _ _ _ _ _ (put5 (w1.alloc (.cells #[.slice u1 n t1, .slice u2 m t2, .slice u3 (Mx.pmL xs ws).length t3, .slice u4 0 t4, .int .i64 0] 25)) w.heap.size (.slice none 0 0) (.slice none 0 0) (.slice none 0 0) (.slice none 0 0) (.int .i64 0))
      generalize put5 (w1.alloc (.cells #[.slice u1 n t1, .slice u2 m t2, .slice u3 (Mx.pmL xs ws).length t3, .slice u4 0 t4, .int .i64 0] 25)) w.heap.size (.slice none 0 0) (.slice none 0 0) (.slice none 0 0) (.slice none 0 0) (.int .i64 0) = Wf at *
      obtain ⟨k0, k1, k2, k3, k4⟩ := HJ9.out
      exact bodyPost_ret (v := .tuple #[.agg #[.slice none 0 0, .slice none 0 0, .slice none 0 0, .slice none 0 0, .int .i64 0], .slice none 0 0, .bool false]) (by simp [results, Try.results26, go_sem, k0, k1, k2, k3, k4]) rfl (PlAns.zero HPL.out HBF.out)
    · have hpl : plB xs ws os = true := by unfold plB; rw [hs]; simp; omega
      have hqq : ¬ (60 : Int) < (q : Int) := by omega
      have hq0 : (0 : Int) ≤ (q : Int) := by omega
      have hlow : w.heap.size ≤ w1.heap.size := Nat.le_of_lt hlt
      have hjl : JL (w1.alloc (.cells #[.slice u1 n t1, .slice u2 m t2, .slice u3 (Mx.pmL xs ws).length t3, .slice u4 0 t4, .int .i64 0] 25)) (w.heap.size + 1) w1.heap.size (.slice none 0 0) (Jb.newJ xs ws) (.slice u1 n t1) (.slice u2 m t2) (.slice u3 (Mx.pmL xs ws).length t3) (.slice u4 0 t4) := by
        have hjr := (hv'.low (Nat.le_of_eq HSZ.out.symm)).jr
        exact ⟨JW.new w1 _ _ _ _ _ _, (hjr.below hb2).up hb2.size (Nat.le_refl _), fun g e => ⟨by have := (hjr.blk g e).2; omega, fun e' => by simp [Value.ownBlock] at e'⟩, fun e' => by simp [Value.ownBlock] at e'⟩
      have HJL := hide (⟨_, _, _, _, hjl⟩ : ∃ ja jb jl jm, JL (w1.alloc (.cells #[.slice u1 n t1, .slice u2 m t2, .slice u3 (Mx.pmL xs ws).length t3, .slice u4 0 t4, .int .i64 0] 25)) (w.heap.size + 1) w1.heap.size (.slice none 0 0) (Jb.newJ xs ws) ja jb jl jm)
      have HB1X := hide B1
      have HRB := hide (fun (X : World) (hX : Below w1.heap.size w1 X) => (HJR.out.below hb1).below hX)
      have HOX := hide (fun (X : World) (hX : Below w1.heap.size w1 X) => (HO.out.below hb1).below hX)
      have HB12 := hide hb2
      have HPL := hide hpl
      have HFT := hide (Jb.new_fit hs)
      have HLT := hide hlt
      have HX3 := hide x3
      have HD0 : Hid ((w1.alloc (.cells #[.slice u1 n t1, .slice u2 m t2, .slice u3 (Mx.pmL xs ws).length t3, .slice u4 0 t4, .int .i64 0] 25)).ownsRow w1.heap.size 4 1 (.slice none 0 0) 0 (bools [])) := hide (World.ownsRow_nil _ _ _ _)
      clear hb1 J1 hv hv' hb2 B1 B2 hl hl2 x1 x2 x3 hlt hpl hs hq hjl HX HO HJR
      go_upto_region 5 with fail
      generalize w1.alloc (.cells #[.slice u1 n t1, .slice u2 m t2, .slice u3 (Mx.pmL xs ws).length t3, .slice u4 0 t4, .int .i64 0] 25) = wa at *
      go_wp2_with fail
      go_loopw [11, 13, 14, 15, 32] (fun sd _ _ _ s wr => ∃ (k : Nat) (dv : Value), dv = sd ∧ s = .int .i64 k ∧ k ≤ q ∧ Hid (Below w1.heap.size w1 wr) ∧ Hid (∃ ja jb jl jm, JL wr (w.heap.size + 1) w1.heap.size dv (Jb.playJ (Jb.newJ xs ws) (os.take k)).1 ja jb jl jm) ∧ Hid (wr.ownsRow w1.heap.size 4 1 dv k (bools (Jb.playJ (Jb.newJ xs ws) (os.take k)).2))) (fun _ _ _ _ s _ => q - (intOf s).toNat)
      case atStart => exact ⟨0, _, rfl, rfl, Nat.zero_le _, HB12, HJL, HD0⟩
      case round =>
        obtain ⟨k, dv, rfl, rfl, hk, HBr, HJr, HDr⟩ := hrel
        by_cases hlt : k < q
        · obtain ⟨J, hJ⟩ : ∃ J, J = (Jb.playJ (Jb.newJ xs ws) (os.take k)).1 := ⟨_, rfl⟩
          obtain ⟨DS, hDS⟩ : ∃ DS, DS = (Jb.playJ (Jb.newJ xs ws) (os.take k)).2 := ⟨_, rfl⟩
          obtain ⟨O, hO⟩ : ∃ O, O = os.getD k 0 := ⟨_, rfl⟩
          rw [← hJ] at HJr
          rw [← hDS] at HDr
          have hstep : Jb.playJ (Jb.newJ xs ws) (os.take (k + 1)) = (Jb.oneJ J O, DS ++ [(Jb.doJ J O).isSome]) := by
            have hkl : k < os.length := by rw [HX3.out]; exact hlt
            rw [show os.take (k + 1) = os.take k ++ [O] by rw [List.take_add_one, List.getElem?_eq_getElem hkl, hO, List.getD_eq_getElem?_getD, List.getElem?_eq_getElem hkl]; rfl, Jb.play_snoc, hJ, hDS]
          have hfit : Jb.Fit J := by rw [hJ]; exact Jb.play_fit HFT.out _
          have hlen : DS.length = k := by rw [hDS, Jb.play_len, List.length_take, HX3.out]; omega
          obtain ⟨ja, jb, jl, jm, hjl⟩ := HJr.out
          obtain ⟨_, _, _, _, e9, g1, g2, g3, g4, _⟩ := hjl.jr.ex
          cases e9
          obtain ⟨a1, c1, rfl⟩ := own_f16 g1
          obtain ⟨a2, c2, rfl⟩ := own_f16 g2
          obtain ⟨a3, c3, rfl, r3⟩ := g3.row
          obtain ⟨a4, c4, rfl, r4⟩ := g4.row
          have h2 := hfit.two
          have HSO := hide (sow_any (x := J) (w := wr) (ca := c1) (cb := c2) (cp := c3) (cm := c4) (by omega) (by omega) (by have := hfit.few; omega) (by have := hfit.m60; omega) (arow_own16 g1) (arow_own16 g2) r3 r4)
          obtain ⟨i0, i1, i2, i3, i4⟩ := hjl.jw.cells
          obtain ⟨bp, op, ep, _, hcell⟩ := (HOX.out _ HBr.out).resolve_left (fun e => by have := HX3.out; rw [e] at this; simp at this; omega)
          have hord := hcell k (by rw [HX3.out]; exact hlt)
          rw [← hO] at hord
          have k0 : (0 : Int) ≤ (k : Int) := by omega
          have k1 : (k : Int) < (q : Int) := by omega
          subst ep
          have HJ := hide hjl
          have HST := hide hstep
          have HFI := hide hfit
          have HLN := hide hlen
          clear g1 g2 g3 g4 r3 r4 h2 hcell hjl hstep hfit hlen hJ hDS hO HJr
          go_wp2_with fail
          refine HSO.out.mono ?_
          rintro _ w2 ⟨xa, xb, xl, xm, rfl, hb2, hv⟩
          have HSD := hide (sdo_any (o := O) hv hb2.size HFI.out)
          have HB2 := hide hb2
          clear hb2 hv HSO i0 i1 i2 i3 i4
          go_wp2_with fail
          refine HSD.out.mono ?_
          rintro _ w3 ⟨u, rfl, hb3, hj⟩
          obtain ⟨a9, b9, l9, m9, rfl, g1, g2, g3, g4, g5⟩ := hj.ex
          obtain ⟨v1, s1, rfl⟩ := own_f16 g1
          obtain ⟨v2, s2, rfl⟩ := own_f16 g2
          obtain ⟨v3, s3, rfl, _⟩ := g3.row
          obtain ⟨v4, s4, rfl, _⟩ := g4.row
          have hb4 := below_new w3 (.cells #[.slice v1 (Jb.oneJ J O).xs.length s1, .slice v2 (Jb.oneJ J O).ws.length s2, .slice v3 (Jb.oneJ J O).L.length s3, .slice v4 (Jb.oneJ J O).M.length s4, .int .i64 (Jb.oneJ J O).f] 25)
          have hbw : Below wr.heap.size wr w3 := HB2.out.trans hb3
          have hbw4 := hbw.trans (hb4.mono hbw.size)
          have JB4 := HJ.out.jw.below hbw4
          have hwl : w.heap.size ≤ w1.heap.size := Nat.le_of_lt HLT.out
          have hdlt : ∀ g, dv.ownBlock = some g → g < wr.heap.size := fun g e => (HDr.out.lt g e).2
          have hdr4 := own_b16 HDr.out hbw4
          have h1r : w1.heap.size ≤ wr.heap.size := HBr.out.size
          have hB1 : w1.heap.size < wr.heap.size := HJ.out.jw.lt
          clear g1 g2 g3 g4 g5 HSD
          cases hd : (Jb.doJ J O).isSome
          · obtain ⟨gg, cap, w6, hr6, ho6, hg6, hat6⟩ := push_b16 (x := false) hdr4 (by omega) (by have := hbw4.size; omega)
            rw [World.size_alloc] at hr6
            have e6 : Jb.oneJ J O = J := by unfold Jb.oneJ; cases h : Jb.doJ J O with | none => rfl | some y => rw [h] at hd; cases hd
            have hJL := HJ.out.grown hbw4 hg6 (d' := .slice (some ⟨gg, 0, none⟩) (k + 1) cap) (fun g e => by simp [Value.ownBlock] at e; subst e; exact hat6)
            have hst := HST.out
            rw [hd, e6] at hst
            have HR := hide (⟨(HBr.out.trans (hbw4.mono h1r)).trans (grown_under10 hg6 (fun g e => (HDr.out.lt g e).1) (by have := hbw4.size; omega)), ⟨_, _, _, _, by rw [hst]; exact hJL⟩, by rw [hst]; simp only [bools, List.map_append]; exact ho6⟩ : Below w1.heap.size w1 w6 ∧ (∃ ja jb jl jm, JL w6 (w.heap.size + 1) w1.heap.size (.slice (some ⟨gg, 0, none⟩) (k + 1) cap) (Jb.playJ (Jb.newJ xs ws) (os.take (k + 1))).1 ja jb jl jm) ∧ w6.ownsRow w1.heap.size 4 1 (.slice (some ⟨gg, 0, none⟩) (k + 1) cap) (k + 1) (bools (Jb.playJ (Jb.newJ xs ws) (os.take (k + 1))).2))
            clear hb4 hbw hbw4 JB4 hdlt hdr4 ho6 hg6 hat6 hJL hst hj e6 hb3 hwl h1r hB1
            go_wp2_with (first | (at_builtin; refine Lib.wpList_append_run _ rfl _ _ _ _ rfl _ _ rfl rfl _ _ (hr6 _) ?_))
            go_round
            case rel => exact ⟨k + 1, _, rfl, by go_num, by omega, hide HR.out.1, hide HR.out.2.1, hide HR.out.2.2⟩
            case measure => simp only [intOf]; omega
          · obtain ⟨gg, cap, w6, hr6, ho6, hg6, hat6⟩ := push_b16 (w := put5 (w3.alloc (.cells #[.slice v1 (Jb.oneJ J O).xs.length s1, .slice v2 (Jb.oneJ J O).ws.length s2, .slice v3 (Jb.oneJ J O).L.length s3, .slice v4 (Jb.oneJ J O).M.length s4, .int .i64 (Jb.oneJ J O).f] 25)) w1.heap.size (.slice v1 (Jb.oneJ J O).xs.length s1) (.slice v2 (Jb.oneJ J O).ws.length s2) (.slice v3 (Jb.oneJ J O).L.length s3) (.slice v4 (Jb.oneJ J O).M.length s4) (.int .i64 (Jb.oneJ J O).f)) (x := true) (own_keep2 hdr4 fun g e _ => put5_same (fun e' => HJ.out.dB (e' ▸ e))) (by omega) (by rw [put5_size]; have := hbw4.size; omega)
            rw [put5_size] at hr6 hat6
            rw [World.size_alloc] at hr6
            have hJL := HJ.out.put (by omega) hdlt hbw hj hb4 hg6 (d' := .slice (some ⟨gg, 0, none⟩) (k + 1) cap) (fun g e => by simp [Value.ownBlock] at e; subst e; exact hat6)
            have hst := HST.out
            rw [hd] at hst
            have HR := hide (⟨((HBr.out.trans (hbw4.mono h1r)).trans (put5_below (Nat.le_refl _))).trans (grown_under10 hg6 (fun g e => (HDr.out.lt g e).1) (by rw [put5_size]; have := hbw4.size; omega)), ⟨_, _, _, _, by rw [hst]; exact hJL⟩, by rw [hst]; simp only [bools, List.map_append]; exact ho6⟩ : Below w1.heap.size w1 w6 ∧ (∃ ja jb jl jm, JL w6 (w.heap.size + 1) w1.heap.size (.slice (some ⟨gg, 0, none⟩) (k + 1) cap) (Jb.playJ (Jb.newJ xs ws) (os.take (k + 1))).1 ja jb jl jm) ∧ w6.ownsRow w1.heap.size 4 1 (.slice (some ⟨gg, 0, none⟩) (k + 1) cap) (k + 1) (bools (Jb.playJ (Jb.newJ xs ws) (os.take (k + 1))).2))
            obtain ⟨q0, q1, q2, q3, q4⟩ := JB4.cells
            have z0 := JB4.fz 0
            have z1 := JB4.fz 1
            have z2 := JB4.fz 2
            have z3 := JB4.fz 3
            have z4 := JB4.fz 4
            clear hb4 hbw hbw4 JB4 hdlt hdr4 ho6 hg6 hat6 hJL hst hj hb3 hwl h1r hB1
            go_wp2_with (first | (at_builtin; refine Lib.wpList_append_run _ rfl _ _ _ _ rfl _ _ rfl rfl _ _ (hr6 _) ?_))
            go_round
            case rel => exact ⟨k + 1, _, rfl, by go_num, by omega, hide HR.out.1, hide HR.out.2.1, hide HR.out.2.2⟩
            case measure => simp only [intOf]; omega
        · have hkq : k = q := by omega
          subst hkq
          have et : os.take k = os := by rw [← HX3.out, List.take_length]
          rw [et] at HJr HDr
          obtain ⟨ja, jb, jl, jm, hjl⟩ := HJr.out
          obtain ⟨f1, f2⟩ := pl_yes HPL.out
          have hdl : (plD xs ws os).length = k := by rw [f2, Jb.play_len, HX3.out]
          obtain ⟨J, hJ⟩ : ∃ J, J = (Jb.playJ (Jb.newJ xs ws) os).1 := ⟨_, rfl⟩
          rw [← hJ] at hjl f1
          obtain ⟨_, _, _, _, e9, g1, g2, g3, g4, _⟩ := hjl.jr.ex
          cases e9
          obtain ⟨a1, c1, rfl⟩ := own_f16 g1
          obtain ⟨a2, c2, rfl⟩ := own_f16 g2
          obtain ⟨a3, c3, rfl, r3⟩ := g3.row
          obtain ⟨a4, c4, rfl, r4⟩ := g4.row
          have hdr := HDr.out
          rw [← f2] at hdr
          obtain ⟨d1, d2, ed⟩ := own_f16 HDr.out
          subst ed
          have J0 := HRB.out wr HBr.out
          have hlt0 := HLT.out
          have hblk : ∀ g, Blk (.slice a1 J.xs.length c1) (.slice a2 J.ws.length c2) (.slice a3 J.L.length c3) (.slice a4 J.M.length c4) J g → g ≠ w.heap.size := fun g e => by have := (hjl.jr.blk g e).1; omega
          have hpl : PlAns w xs ws os (.returned (.tuple #[.agg #[.slice a1 J.xs.length c1, .slice a2 J.ws.length c2, .slice a3 J.L.length c3, .slice a4 J.M.length c4, .int .i64 J.f], .slice d1 k d2, .bool true])) (put5 wr w.heap.size (.slice a1 J.xs.length c1) (.slice a2 J.ws.length c2) (.slice a3 J.L.length c3) (.slice a4 J.M.length c4) (.int .i64 J.f)) := by
            refine ⟨_, _, _, _, _, by rw [f1, HPL.out], (HB1X.out.trans (HBr.out.mono (Nat.le_of_lt hlt0))).trans (put5_below (Nat.le_refl _)), ?_, ?_, ?_⟩
            · rw [f1]
              exact ((hjl.jr.keepB (by rw [put5_size]; exact Nat.le_refl _) fun g e => put5_same (hblk g e)).low (Nat.le_succ _)).up (by rw [put5_size]; exact Nat.le_refl _) (Nat.le_refl _)
            · rw [hdl]
              exact owns_low (own_keep2 hdr fun g e _ => put5_same (by have := (hdr.lt g e).1; omega)) (Nat.le_of_lt hlt0)
            · rw [f1]; exact fun g e => (hjl.nB g e).2
          have HP := hide hpl
          obtain ⟨i0, i1, i2, i3, i4⟩ := hjl.jw.cells
          obtain ⟨q0, q1, q2, q3, q4⟩ := J0.cells
          have z0 := J0.fz 0
          have z1 := J0.fz 1
          have z2 := J0.fz 2
          have z3 := J0.fz 3
          have z4 := J0.fz 4
          have HJ9 := hide (J0.put5 (.slice a1 J.xs.length c1) (.slice a2 J.ws.length c2) (.slice a3 J.L.length c3) (.slice a4 J.M.length c4) (.int .i64 J.f)).cells
          clear hjl g1 g2 g3 g4 r3 r4 hdr J0 hblk hpl hJ f1 f2 hdl HJr HDr et
          go_wp2_with fail
          show bodyPost _ _ _ _ _ (put5 wr w.heap.size (.slice a1 J.xs.length c1) (.slice a2 J.ws.length c2) (.slice a3 J.L.length c3) (.slice a4 J.M.length c4) (.int .i64 J.f))
          generalize put5 wr w.heap.size (.slice a1 J.xs.length c1) (.slice a2 J.ws.length c2) (.slice a3 J.L.length c3) (.slice a4 J.M.length c4) (.int .i64 J.f) = Wf at *
          obtain ⟨k0, k1, k2, k3, k4⟩ := HJ9.out
          exact bodyPost_ret (v := .tuple #[.agg #[.slice a1 J.xs.length c1, .slice a2 J.ws.length c2, .slice a3 J.L.length c3, .slice a4 J.M.length c4, .int .i64 J.f], .slice d1 k d2, .bool true]) (by simp [results, Try.results26, go_sem, k0, k1, k2, k3, k4]) rfl HP.out
end Go.Proofs.Ytnjkdfeajlnojaa
namespace Go.Proofs.Ytnjkdfeajlnojaa
open Go.RowKit

set_option maxRecDepth 100000 in
set_option maxHeartbeats 8000000 in
theorem pj_w {a b p : Option Addr} {n m q c d e : Nat} {xs ws os : List Int} {w : World} (hx : xs.length = n) (hy : ws.length = m) (ho : os.length = q) (hc : n ≤ c) (hd : m ≤ d) (ha : ARow w a xs) (hb : ARow w b ws) (hp : ARow w p os) (hql : q ≤ 1048576) :
    Calls Try.prog 27 #[.slice a n c, .slice b m d, .slice p q e] w fun r w' => PlAns w xs ws os r w' := by
  have JR0 := JW.new w 25 (.slice none 0 0) (.slice none 0 0) (.slice none 0 0) (.slice none 0 0) (.int .i64 0)
  have BW := below_new w (.cells #[.slice none 0 0, .slice none 0 0, .slice none 0 0, .slice none 0 0, .int .i64 0] 25)
  have hsz : (w.alloc (.cells #[.slice none 0 0, .slice none 0 0, .slice none 0 0, .slice none 0 0, .int .i64 0] 25)).heap.size = w.heap.size + 1 := World.size_alloc _ _
  generalize hW : w.alloc (.cells #[.slice none 0 0, .slice none 0 0, .slice none 0 0, .slice none 0 0, .int .i64 0] 25) = W at *
  have HN := hide (nj_w (w := W) hx hy hc hd (ha.below BW) (hb.below BW))
  have HO := hide (hp.below BW)
  have HOL : Hid (∀ bp op, p = some ⟨bp, op, none⟩ → os ≠ [] → bp < w.heap.size) := hide fun bp op e hne => by
    rcases hp with h | ⟨b1, o1, e1, h1, _⟩
    · exact absurd h hne
    · rw [e1] at e; cases e; exact h1
  have HX := hide (⟨hx, hy, ho⟩ : _ ∧ _ ∧ _)
  have HJR := hide JR0
  have HBW := hide BW
  have HSZ := hide hsz
  have HW := hide hW
  clear JR0 BW ha hb hp hx hy ho hsz hW
  go_enter Try.func27, Try.ntmps27
  go_upto_region 1 with fail
  rw [HW.out]
  clear HW
  go_wp2_with fail
  refine HN.out.mono ?_
  rintro r w1 ⟨va, vb, vl, vm, rfl, hb1, hv⟩
  clear HN
  cases hs : Mx.sameB xs ws
  · have hpl : plB xs ws os = false := by unfold plB; rw [hs]; rfl
    rw [new_no hs] at hv
    obtain ⟨u1, t1, rfl⟩ := own_f16 hv.oa
    obtain ⟨u2, t2, rfl⟩ := own_f16 hv.ob
    obtain ⟨u3, t3, rfl⟩ := own_f16 hv.ol
    obtain ⟨u4, t4, rfl⟩ := own_f16 hv.om
    have J1 := (HJR.out.below hb1).alloc (.cells #[.slice u1 zeroJ.xs.length t1, .slice u2 zeroJ.ws.length t2, .slice u3 zeroJ.L.length t3, .slice u4 zeroJ.M.length t4, .int .i64 0] 25)
    have hb2 := below_new w1 (.cells #[.slice u1 zeroJ.xs.length t1, .slice u2 zeroJ.ws.length t2, .slice u3 zeroJ.L.length t3, .slice u4 zeroJ.M.length t4, .int .i64 0] 25)
    have B1 := HBW.out.trans (hb1.mono HBW.out.size)
    have HBF := hide ((B1.trans (hb2.mono B1.size)).trans (put5_below (w := w1.alloc (.cells #[.slice u1 zeroJ.xs.length t1, .slice u2 zeroJ.ws.length t2, .slice u3 zeroJ.L.length t3, .slice u4 zeroJ.M.length t4, .int .i64 0] 25)) (B := w.heap.size) (a := .slice none 0 0) (b := .slice none 0 0) (l := .slice none 0 0) (m := .slice none 0 0) (f := .int .i64 0) (Nat.le_refl _)))
    obtain ⟨q0, q1, q2, q3, q4⟩ := J1.cells
    have z0 := J1.fz 0
    have z1 := J1.fz 1
    have z2 := J1.fz 2
    have z3 := J1.fz 3
    have z4 := J1.fz 4
    have HJ9 := hide (J1.put5 (.slice none 0 0) (.slice none 0 0) (.slice none 0 0) (.slice none 0 0) (.int .i64 0)).cells
    clear hb1 J1 hv hb2 B1
    have HPL := hide hpl
    clear hpl hs
    go_wp2_with fail
    show bodyPost _ _ _ _ _ (put5 (w1.alloc (.cells #[.slice u1 zeroJ.xs.length t1, .slice u2 zeroJ.ws.length t2, .slice u3 zeroJ.L.length t3, .slice u4 zeroJ.M.length t4, .int .i64 0] 25)) w.heap.size (.slice none 0 0) (.slice none 0 0) (.slice none 0 0) (.slice none 0 0) (.int .i64 0))
    generalize put5 (w1.alloc (.cells #[.slice u1 zeroJ.xs.length t1, .slice u2 zeroJ.ws.length t2, .slice u3 zeroJ.L.length t3, .slice u4 zeroJ.M.length t4, .int .i64 0] 25)) w.heap.size (.slice none 0 0) (.slice none 0 0) (.slice none 0 0) (.slice none 0 0) (.int .i64 0) = Wf at *
    obtain ⟨k0, k1, k2, k3, k4⟩ := HJ9.out
    exact bodyPost_ret (v := .tuple #[.agg #[.slice none 0 0, .slice none 0 0, .slice none 0 0, .slice none 0 0, .int .i64 0], .slice none 0 0, .bool false]) (by simp [results, Try.results27, go_sem, k0, k1, k2, k3, k4]) rfl (PlAns.zero HPL.out HBF.out)
  · have hl := Mx.good_len (Mx.same_good hs).1
    have hl2 := (Mx.same_good hs).2.2.length_eq
    obtain ⟨x1, x2, x3⟩ := HX.out
    have hlt : w.heap.size < w1.heap.size := by have := HSZ.out; have := hb1.size; omega
    have B1 := HBW.out.trans (hb1.mono HBW.out.size)
    rw [new_yes hs] at hv
    have hv' := hv
    have f1 := hv.oa
    have f2 := hv.ob
    have f3 := hv.ol
    have f4 := hv.om
    rw [show (Jb.newJ xs ws).xs.length = n from x1] at f1
    rw [show (Jb.newJ xs ws).ws.length = m from x2] at f2
    rw [show (Jb.newJ xs ws).L.length = (Mx.pmL xs ws).length from rfl] at f3
    rw [show (Jb.newJ xs ws).M.length = 0 from rfl] at f4
    obtain ⟨u1, t1, rfl⟩ := own_f16 f1
    obtain ⟨u2, t2, rfl⟩ := own_f16 f2
    obtain ⟨u3, t3, rfl⟩ := own_f16 f3
    obtain ⟨u4, t4, rfl⟩ := own_f16 f4
    clear f1 f2 f3 f4
    have J1 := (HJR.out.below hb1).alloc (.cells #[.slice u1 n t1, .slice u2 m t2, .slice u3 (Mx.pmL xs ws).length t3, .slice u4 0 t4, .int .i64 0] 25)
    have hb2 := below_new w1 (.cells #[.slice u1 n t1, .slice u2 m t2, .slice u3 (Mx.pmL xs ws).length t3, .slice u4 0 t4, .int .i64 0] 25)
    have B2 := B1.trans (hb2.mono B1.size)
    by_cases hq : 60 < q
    · have hpl : plB xs ws os = false := by unfold plB; rw [hs]; simp; omega
      have hqq : (60 : Int) < (q : Int) := by omega
      have HBF := hide (B2.trans (put5_below (w := w1.alloc (.cells #[.slice u1 n t1, .slice u2 m t2, .slice u3 (Mx.pmL xs ws).length t3, .slice u4 0 t4, .int .i64 0] 25)) (B := w.heap.size) (a := .slice none 0 0) (b := .slice none 0 0) (l := .slice none 0 0) (m := .slice none 0 0) (f := .int .i64 0) (Nat.le_refl _)))
      obtain ⟨q0, q1, q2, q3, q4⟩ := J1.cells
      have z0 := J1.fz 0
      have z1 := J1.fz 1
      have z2 := J1.fz 2
      have z3 := J1.fz 3
      have z4 := J1.fz 4
      have HJ9 := hide (J1.put5 (.slice none 0 0) (.slice none 0 0) (.slice none 0 0) (.slice none 0 0) (.int .i64 0)).cells
      have HPL := hide hpl
      clear hb1 J1 hv hv' hb2 B1 B2 hl hl2 x1 x2 x3 hlt hpl hs hq
      go_wp2_with fail
      show bodyPost _ _ _ _ _ (put5 (w1.alloc (.cells #[.slice u1 n t1, .slice u2 m t2, .slice u3 (Mx.pmL xs ws).length t3, .slice u4 0 t4, .int .i64 0] 25)) w.heap.size (.slice none 0 0) (.slice none 0 0) (.slice none 0 0) (.slice none 0 0) (.int .i64 0))
      generalize put5 (w1.alloc (.cells #[.slice u1 n t1, .slice u2 m t2, .slice u3 (Mx.pmL xs ws).length t3, .slice u4 0 t4, .int .i64 0] 25)) w.heap.size (.slice none 0 0) (.slice none 0 0) (.slice none 0 0) (.slice none 0 0) (.int .i64 0) = Wf at *
      obtain ⟨k0, k1, k2, k3, k4⟩ := HJ9.out
      exact bodyPost_ret (v := .tuple #[.agg #[.slice none 0 0, .slice none 0 0, .slice none 0 0, .slice none 0 0, .int .i64 0], .slice none 0 0, .bool false]) (by simp [results, Try.results27, go_sem, k0, k1, k2, k3, k4]) rfl (PlAns.zero HPL.out HBF.out)
    · have hpl : plB xs ws os = true := by unfold plB; rw [hs]; simp; omega
      have hqq : ¬ (60 : Int) < (q : Int) := by omega
      have hq0 : (0 : Int) ≤ (q : Int) := by omega
      have hlow : w.heap.size ≤ w1.heap.size := Nat.le_of_lt hlt
      have hmk := makeB_run q hql
      have hE : JP (w1.alloc (.cells #[.slice u1 n t1, .slice u2 m t2, .slice u3 (Mx.pmL xs ws).length t3, .slice u4 0 t4, .int .i64 0] 25)) (w.heap.size + 1) (fun k => k = w.heap.size) w1.heap.size (.slice u1 n t1) (.slice u2 m t2) (.slice u3 (Mx.pmL xs ws).length t3) (.slice u4 0 t4) (Jb.newJ xs ws) :=
        (hv'.low (Nat.le_of_eq HSZ.out.symm)).box (by omega) (fun k hk => by omega)
      have hsa : (w1.alloc (.cells #[.slice u1 n t1, .slice u2 m t2, .slice u3 (Mx.pmL xs ws).length t3, .slice u4 0 t4, .int .i64 0] 25)).heap.size = w1.heap.size + 1 := World.size_alloc _ _
      have hE2 := hE.more (.cells (madeCells #[.bool false] q) 4)
      have hdn := madeB_own (w1.alloc (.cells #[.slice u1 n t1, .slice u2 m t2, .slice u3 (Mx.pmL xs ws).length t3, .slice u4 0 t4, .int .i64 0] 25)) q hql
      have hb3 := below_new (w1.alloc (.cells #[.slice u1 n t1, .slice u2 m t2, .slice u3 (Mx.pmL xs ws).length t3, .slice u4 0 t4, .int .i64 0] 25)) (.cells (madeCells #[.bool false] q) 4)
      have hwa : ((w1.alloc (.cells #[.slice u1 n t1, .slice u2 m t2, .slice u3 (Mx.pmL xs ws).length t3, .slice u4 0 t4, .int .i64 0] 25)).alloc (.cells (madeCells #[.bool false] q) 4)).heap.size = w1.heap.size + 2 := by rw [World.size_alloc, hsa]
      rw [hsa] at hE2 hdn hb3
      have J2 := J1.alloc (.cells (madeCells #[.bool false] q) 4)
      have B3 := B2.trans (hb3.mono (by omega))
      have HJL : Hid (∃ ja jb jl jm, JP ((w1.alloc (.cells #[.slice u1 n t1, .slice u2 m t2, .slice u3 (Mx.pmL xs ws).length t3, .slice u4 0 t4, .int .i64 0] 25)).alloc (.cells (madeCells #[.bool false] q) 4)) (w.heap.size + 1) (fun k => k = w.heap.size ∨ k = w1.heap.size + 1) w1.heap.size ja jb jl jm (Jb.playJ (Jb.newJ xs ws) (os.take 0)).1) := hide ⟨_, _, _, _, hE2⟩
      have HDN : Hid (((w1.alloc (.cells #[.slice u1 n t1, .slice u2 m t2, .slice u3 (Mx.pmL xs ws).length t3, .slice u4 0 t4, .int .i64 0] 25)).alloc (.cells (madeCells #[.bool false] q) 4)).ownsRow (w1.heap.size + 1) 4 1 (.slice (some ⟨w1.heap.size + 1, 0, none⟩) q q) q (bools ((Jb.playJ (Jb.newJ xs ws) (os.take 0)).2 ++ List.replicate (q - 0) false))) := hide hdn
      have HFR : Hid (Fr (w.heap.size + 1) (fun k => k = w.heap.size ∨ k = w1.heap.size + 1) ((w1.alloc (.cells #[.slice u1 n t1, .slice u2 m t2, .slice u3 (Mx.pmL xs ws).length t3, .slice u4 0 t4, .int .i64 0] 25)).alloc (.cells (madeCells #[.bool false] q) 4)) ((w1.alloc (.cells #[.slice u1 n t1, .slice u2 m t2, .slice u3 (Mx.pmL xs ws).length t3, .slice u4 0 t4, .int .i64 0] 25)).alloc (.cells (madeCells #[.bool false] q) 4))) := hide (Fr.refl _ _ _)
      have HOX := hide (⟨(HO.out.below hb1).below (hb2.trans (hb3.mono (by omega))), B3, J2, hwa⟩ : _ ∧ _ ∧ _ ∧ _)
      have HPL := hide hpl
      have HFT := hide (Jb.new_fit hs)
      have HLT := hide hlt
      have HX3 := hide x3
      clear hb1 J1 hv hv' hb2 B1 B2 hl hl2 x1 x2 x3 hlt hpl hs hq HX HO HJR hE hE2 hdn hb3 J2 B3 hlow hsa hwa
      go_upto_region 5 with fail
      generalize (w1.alloc (.cells #[.slice u1 n t1, .slice u2 m t2, .slice u3 (Mx.pmL xs ws).length t3, .slice u4 0 t4, .int .i64 0] 25)).alloc (.cells (madeCells #[.bool false] q) 4) = wa at *
      go_wp2_with fail
      go_loopw [12, 13, 33] (fun _ _ s wr => ∃ (k : Nat), s = .int .i64 k ∧ k ≤ q ∧ Hid (Fr (w.heap.size + 1) (fun k => k = w.heap.size) wa wr) ∧ Hid (∃ ja jb jl jm, JP wr (w.heap.size + 1) (fun k => k = w.heap.size ∨ k = w1.heap.size + 1) w1.heap.size ja jb jl jm (Jb.playJ (Jb.newJ xs ws) (os.take k)).1) ∧ Hid (wr.ownsRow (w1.heap.size + 1) 4 1 (.slice (some ⟨w1.heap.size + 1, 0, none⟩) q q) q (bools ((Jb.playJ (Jb.newJ xs ws) (os.take k)).2 ++ List.replicate (q - k) false)))) (fun _ _ s _ => q - (intOf s).toNat)
      case atStart => exact ⟨0, rfl, Nat.zero_le _, hide (Fr.refl _ _ _), HJL, HDN⟩
      case round =>
        obtain ⟨k, rfl, hk, HFr, HJr, HDr⟩ := hrel
        by_cases hlt : k < q
        · obtain ⟨J, hJ⟩ : ∃ J, J = (Jb.playJ (Jb.newJ xs ws) (os.take k)).1 := ⟨_, rfl⟩
          obtain ⟨DS, hDS⟩ : ∃ DS, DS = (Jb.playJ (Jb.newJ xs ws) (os.take k)).2 := ⟨_, rfl⟩
          obtain ⟨O, hO⟩ : ∃ O, O = os.getD k 0 := ⟨_, rfl⟩
          rw [← hJ] at HJr
          rw [← hDS] at HDr
          have hstep : Jb.playJ (Jb.newJ xs ws) (os.take (k + 1)) = (Jb.oneJ J O, DS ++ [(Jb.doJ J O).isSome]) := by
            have hkl : k < os.length := by rw [HX3.out]; exact hlt
            rw [show os.take (k + 1) = os.take k ++ [O] by rw [List.take_add_one, List.getElem?_eq_getElem hkl, hO, List.getD_eq_getElem?_getD, List.getElem?_eq_getElem hkl]; rfl, Jb.play_snoc, hJ, hDS]
          have hfit : Jb.Fit J := by rw [hJ]; exact Jb.play_fit HFT.out _
          have hlen : DS.length = k := by rw [hDS, Jb.play_len, List.length_take, HX3.out]; omega
          obtain ⟨bp, op, ep, hbp, hcell⟩ := HOX.out.1.resolve_left (fun e => by have := HX3.out; rw [e] at this; simp at this; omega)
          have hbl : bp < w.heap.size := HOL.out bp op ep (fun e => by have := HX3.out; rw [e] at this; simp at this; omega)
          have hord := (HFr.out.1.cell (p := ⟨bp, op + k, none⟩) (show bp < w.heap.size + 1 by omega)).trans (hcell k (by rw [HX3.out]; exact hlt))
          rw [← hO] at hord
          have k0 : (0 : Int) ≤ (k : Int) := by omega
          have k1 : (k : Int) < (q : Int) := by omega
          subst ep
          have HTR := hide (try_any (o := O) HJr.out hfit)
          have HAFT : Hid (∀ w2, JB w2 (w.heap.size + 1) (fun k => k = w.heap.size ∨ k = w1.heap.size + 1) w1.heap.size (Jb.oneJ J O) → Fr (w.heap.size + 1) (fun k => k = w.heap.size ∨ k = w1.heap.size + 1) wr w2 →
              w2.cell? ⟨w1.heap.size + 1, k, none⟩ = some (.bool false) ∧ w2.frozen? ⟨w1.heap.size + 1, k, none⟩ = false ∧ ∀ b, b = (Jb.doJ J O).isSome →
                (Fr (w.heap.size + 1) (fun k => k = w.heap.size) wa (w2.setCell ⟨w1.heap.size + 1, k, none⟩ (.bool b)) ∧ (∃ ja jb jl jm, JP (w2.setCell ⟨w1.heap.size + 1, k, none⟩ (.bool b)) (w.heap.size + 1) (fun k => k = w.heap.size ∨ k = w1.heap.size + 1) w1.heap.size ja jb jl jm (Jb.playJ (Jb.newJ xs ws) (os.take (k + 1))).1) ∧ (w2.setCell ⟨w1.heap.size + 1, k, none⟩ (.bool b)).ownsRow (w1.heap.size + 1) 4 1 (.slice (some ⟨w1.heap.size + 1, 0, none⟩) q q) q (bools ((Jb.playJ (Jb.newJ xs ws) (os.take (k + 1))).2 ++ List.replicate (q - (k + 1)) false)))) := hide fun w2 hj2 hf2 => by
            have hd2 := own_keep2 HDr.out (w' := w2) fun g e _ => hf2.2 g (Or.inr (by cases e; rfl))
            have hget : (bools (DS ++ List.replicate (q - k) false))[k]? = some (.bool false) := by
              rw [bools, List.getElem?_map, List.getElem?_append_right (by omega), hlen, Nat.sub_self, show q - k = (q - (k + 1)) + 1 by omega, List.replicate_succ]; rfl
            refine ⟨by rw [hd2.cellAt k (by omega)]; exact hget, hd2.frozenAt k, fun b hbb => ⟨?_, ?_, ?_⟩⟩
            · have h1 : Fr (w.heap.size + 1) (fun k => k = w.heap.size) wr w2 := ⟨hf2.1, fun j hj => hf2.2 j (Or.inl hj)⟩
              exact (HFr.out.trans h1).trans (below_set16 (by have := HLT.out; omega) (by have := HLT.out; omega))
            · rw [hstep]
              obtain ⟨ja, jb, jl, jm, h⟩ := hj2
              exact ⟨ja, jb, jl, jm, h.other (Or.inr rfl)⟩
            · rw [hstep]
              have hs2 := (hd2.stored k (.bool b)).1
              have e : (bools (DS ++ List.replicate (q - k) false)).set k (.bool b) = bools (DS ++ [(Jb.doJ J O).isSome] ++ List.replicate (q - (k + 1)) false) := by
                rw [show q - k = (q - (k + 1)) + 1 by omega, List.replicate_succ, bools, List.map_append, List.set_append_right _ _ (by simp; omega), List.length_map, hlen, Nat.sub_self, hbb]
                simp [bools]
              rw [e] at hs2
              exact hs2
          clear hstep hfit hlen hcell hJ hDS hO HJr HDr hbp
          go_wp2_with fail
          refine HTR.out.mono ?_
          rintro _ w2 ⟨rfl, hj2, hf2⟩
          obtain ⟨y0, z0, hfin⟩ := HAFT.out w2 hj2 hf2
          have HR := hide (hfin _ rfl)
          clear hfin hj2 hf2 HAFT HTR
          go_wp2_with fail
          go_round
          case rel => exact ⟨k + 1, by go_num, by omega, hide HR.out.1, hide HR.out.2.1, hide HR.out.2.2⟩
          case measure => simp only [intOf]; omega
        · have hkq : k = q := by omega
          subst hkq
          have et : os.take k = os := by rw [← HX3.out, List.take_length]
          rw [et] at HJr HDr
          rw [Nat.sub_self, List.replicate_zero, List.append_nil] at HDr
          obtain ⟨f1, f2⟩ := pl_yes HPL.out
          have hdl : (plD xs ws os).length = k := by rw [f2, Jb.play_len, HX3.out]
          obtain ⟨J, hJ⟩ : ∃ J, J = (Jb.playJ (Jb.newJ xs ws) os).1 := ⟨_, rfl⟩
          rw [← hJ] at HJr f1
          obtain ⟨ja, jb, jl, jm, hjp⟩ := HJr.out
          obtain ⟨a1, c1, rfl⟩ := own_f16 hjp.oa
          obtain ⟨a2, c2, rfl⟩ := own_f16 hjp.ob
          obtain ⟨a3, c3, rfl, _⟩ := hjp.ol.2.2
          obtain ⟨a4, c4, rfl⟩ := own_f16 hjp.om
          have hdr := HDr.out
          rw [← f2] at hdr
          have hlt0 := HLT.out
          have hsz9 := HOX.out.2.2.2
          have J0 : JW wr w.heap.size 25 _ _ _ _ _ := (HFr.out.2 w.heap.size rfl).trans HOX.out.2.2.1
          have hjr := hjp.jr
          have hblk : ∀ g, Blk (.slice a1 J.xs.length c1) (.slice a2 J.ws.length c2) (.slice a3 J.L.length c3) (.slice a4 J.M.length c4) J g → g ≠ w.heap.size ∧ g ≠ w1.heap.size + 1 := fun g e => by
            have h1 : ¬ (g = w.heap.size ∨ g = w1.heap.size + 1) := by
              rcases e with e | e | e | e
              · exact hjp.ea g e
              · exact hjp.eb g e
              · exact hjp.el g e
              · exact hjp.em g (moB_own e)
            exact ⟨fun h => h1 (Or.inl h), fun h => h1 (Or.inr h)⟩
          have hpl : PlAns w xs ws os (.returned (.tuple #[.agg #[.slice a1 J.xs.length c1, .slice a2 J.ws.length c2, .slice a3 J.L.length c3, .slice a4 J.M.length c4, .int .i64 J.f], .slice (some ⟨w1.heap.size + 1, 0, none⟩) k k, .bool true])) (put5 wr w.heap.size (.slice a1 J.xs.length c1) (.slice a2 J.ws.length c2) (.slice a3 J.L.length c3) (.slice a4 J.M.length c4) (.int .i64 J.f)) := by
            refine ⟨_, _, _, _, _, by rw [f1, HPL.out], (HOX.out.2.1.trans (HFr.out.1.mono (Nat.le_succ _))).trans (put5_below (Nat.le_refl _)), ?_, ?_, ?_⟩
            · rw [f1]
              exact ((hjr.keepB (by rw [put5_size]; exact Nat.le_refl _) fun g e => put5_same (hblk g e).1).low (Nat.le_succ _)).up (by rw [put5_size]; exact Nat.le_refl _) (Nat.le_refl _)
            · rw [hdl]
              exact owns_low (own_keep2 hdr fun g e _ => put5_same (by have h9 := (hdr.lt g e).1; omega)) (by omega)
            · rw [f1]; exact fun g e e' => (hblk g e).2 (by cases e'; rfl)
          have HP := hide hpl
          obtain ⟨i0, i1, i2, i3, i4⟩ := hjp.jw.cells
          obtain ⟨q0, q1, q2, q3, q4⟩ := J0.cells
          have z0 := J0.fz 0
          have z1 := J0.fz 1
          have z2 := J0.fz 2
          have z3 := J0.fz 3
          have z4 := J0.fz 4
          have HJ9 := hide (J0.put5 (.slice a1 J.xs.length c1) (.slice a2 J.ws.length c2) (.slice a3 J.L.length c3) (.slice a4 J.M.length c4) (.int .i64 J.f)).cells
          clear hjp hdr J0 hblk hpl hJ f1 f2 hdl HJr HDr et hjr hsz9
          go_wp2_with fail
          show bodyPost _ _ _ _ _ (put5 wr w.heap.size (.slice a1 J.xs.length c1) (.slice a2 J.ws.length c2) (.slice a3 J.L.length c3) (.slice a4 J.M.length c4) (.int .i64 J.f))
          generalize put5 wr w.heap.size (.slice a1 J.xs.length c1) (.slice a2 J.ws.length c2) (.slice a3 J.L.length c3) (.slice a4 J.M.length c4) (.int .i64 J.f) = Wf at *
          obtain ⟨k0, k1, k2, k3, k4⟩ := HJ9.out
          exact bodyPost_ret (v := .tuple #[.agg #[.slice a1 J.xs.length c1, .slice a2 J.ws.length c2, .slice a3 J.L.length c3, .slice a4 J.M.length c4, .int .i64 J.f], .slice (some ⟨w1.heap.size + 1, 0, none⟩) k k, .bool true]) (by simp [results, Try.results27, go_sem, k0, k1, k2, k3, k4]) rfl HP.out
end Go.Proofs.Ytnjkdfeajlnojaa
namespace Go.Proofs.Ytnjkdfeajlnojaa
open Go.RowKit

theorem newV_f (xs ws : List Int) : (newV xs ws).f = 0 := by unfold newV; split <;> rfl
theorem fit_le {x : Jb.J} (h : Jb.Fit x) : x.xs.length ≤ 1048576 ∧ x.ws.length ≤ 1048576 ∧ x.L.length ≤ 1048576 ∧ x.M.length ≤ 1048576 := by
  have h1 := h.two
  have h2 := h.few
  have h3 := h.m60
  omega
theorem newV_le (xs ws : List Int) : (newV xs ws).xs.length ≤ 1048576 ∧ (newV xs ws).ws.length ≤ 1048576 ∧ (newV xs ws).L.length ≤ 1048576 ∧ (newV xs ws).M.length ≤ 1048576 := by
  cases h : Mx.sameB xs ws
  · rw [new_no h]; exact ⟨Nat.zero_le _, Nat.zero_le _, Nat.zero_le _, Nat.zero_le _⟩
  · rw [new_yes h]; exact fit_le (Jb.new_fit h)
theorem doV_le (x : Jb.J) (o : Int) : (doV x o).xs.length ≤ 1048576 ∧ (doV x o).ws.length ≤ 1048576 ∧ (doV x o).L.length ≤ 1048576 ∧ (doV x o).M.length ≤ 1048576 := by
  have z : zeroJ.xs.length ≤ 1048576 ∧ zeroJ.ws.length ≤ 1048576 ∧ zeroJ.L.length ≤ 1048576 ∧ zeroJ.M.length ≤ 1048576 := ⟨Nat.zero_le _, Nat.zero_le _, Nat.zero_le _, Nat.zero_le _⟩
  cases h : goodJ x
  · rw [(do_no1 (o := o) h).2]; exact z
  · cases hd : Jb.doJ x o with
    | none => rw [(do_no2 (o := o) hd).2]; exact z
    | some y =>
      rw [(do_yes (o := o) h hd).2]
      exact fit_le ((Jb.good_fit h).next hd)
theorem nj_r {a b : Option Addr} {n m c d : Nat} {xs ws : List Int} {w : World} (hx : xs.length = n) (hy : ws.length = m) (hc : n ≤ c) (hd : m ≤ d) (ha : ARow w a xs) (hb : ARow w b ws) :
    Calls Try.prog 11 #[.slice a n c, .slice b m d] w fun e w' => ∃ u, e = .returned (.tuple #[u, .bool (Mx.sameB xs ws)]) ∧ Below w.heap.size w w' ∧ JR w' w.heap.size w'.heap.size u (newV xs ws) := by
  refine (nj_w hx hy hc hd ha hb).mono fun e w' ⟨va, vb, vl, vm, he, hw, hv⟩ => ⟨_, he, hw, ?_⟩
  have := hv.jr
  rw [newV_f] at this
  exact this
theorem snj_r {a b : Option Addr} {n m c d : Nat} {xs ws : List Int} {w : World} (hx : xs.length = n) (hy : ws.length = m) (hc : n ≤ c) (hd : m ≤ d) (ha : ARow w a xs) (hb : ARow w b ws) :
    Calls Try.prog 9 #[.slice a n c, .slice b m d] w fun e w' => ∃ u, e = .returned (.tuple #[u, .bool (Mx.sameB xs ws)]) ∧ Below w.heap.size w w' ∧ JR w' w.heap.size w'.heap.size u (newV xs ws) := by
  refine (snj_w hx hy hc hd ha hb).mono fun e w' ⟨va, vb, vl, vm, he, hw, hv⟩ => ⟨_, he, hw, ?_⟩
  have := hv.jr
  rw [newV_f] at this
  exact this
end Go.Proofs.Ytnjkdfeajlnojaa
namespace Go.Proofs.Ytnjkdfeajlnojaa
open Go.ChangeShapes Go.WideShapes Go.ChangeAt Go.RowKit Go.Deep

theorem laidOut' : laidOutB Try.prog = true := by kernel_rfl

set_option maxRecDepth 100000 in
theorem opened_ints {H : Type} {enc : TypeId × Value → H} {W : World} {fuel : Nat} {c : Value} {x : DataW H × List MemPlace} {sp : Nat → Bool}
    (hf : DataW.trod enc Try.prog W 0 sp true fuel 22 [c] = some x) : ∃ (a : Option Addr) (xs : List Int) (cap : Nat), c = .slice a xs.length cap ∧ xs.length ≤ maxLen ∧ ARow W a xs := by
  rcases open_ints Try.underlying22 Try.underlying3 (by kernel_rfl) hf with ⟨hcs, _⟩ | ⟨a, len, cap, zs, hcs, _, hl, hcap, hzl, _, hcell, _⟩
  · simp at hcs
    subst hcs
    exact ⟨none, [], 0, rfl, by simp, Or.inl rfl⟩
  · simp at hcs
    subst hcs
    have hlm : len ≤ zs.length := by rw [hzl]; split <;> omega
    refine ⟨some a, zs.take len, cap, by simp [hlm], by simp [hlm]; omega, ?_⟩
    by_cases h : len = 0
    · left; subst h; rfl
    · right
      obtain ⟨b, off, spot⟩ := a
      have hc := hcell 0 (by omega)
      have hspot : spot = none := by simpa [Addr.add] using World.cell?_spot hc
      subst hspot
      refine ⟨b, off, rfl, World.block_lt_of_cell? W _ hc, ?_⟩
      intro i hi
      simp [hlm] at hi
      have hci := hcell i (by omega)
      rw [add_plain] at hci
      rw [hci]
      simp [hi]

set_option maxRecDepth 100000 in
theorem opened_slice {H : Type} {enc : TypeId × Value → H} {W : World} {base : Nat} {v : Value} {x : DataW H} {p : List MemPlace} {sp : Nat → Bool} (hv : Value.okWide Try.prog W .any base 22 v)
    (h0 : DataW.Trod enc Try.prog W 0 sp true 22 v x p) : ∃ (a : Option Addr) (xs : List Int) (c : Nat), v = .slice a xs.length c ∧ xs.length ≤ maxLen ∧ ARow W a xs := by
  obtain ⟨a0, len0, cap0, rfl⟩ := okWide_slice Try.underlying22 hv
  obtain ⟨fuel, hf⟩ := h0
  exact opened_ints hf
theorem cellsS : Try.prog.cellsOf 22 = 1 := by kernel_rfl
end Go.Proofs.Ytnjkdfeajlnojaa
namespace Go.Proofs.Ytnjkdfeajlnojaa
open Go.ChangeShapes Go.WideShapes Go.ChangeAt Go.RowKit Go.Deep

theorem cellsFa : Try.prog.cellsOf 81 = 2 := by kernel_rfl
theorem cellsFi : Try.prog.cellsOf 3 = 1 := by kernel_rfl
set_option maxRecDepth 100000 in
theorem opened_moves {H : Type} {enc : TypeId × Value → H} {W : World} {base : Nat} {v : Value} {x : DataW H} {p : List MemPlace} {sp : Nat → Bool} (hv : Value.okWide Try.prog W .any base 33 v)
    (h0 : DataW.Trod enc Try.prog W 0 sp true 33 v x p) : ∃ (a : Option Addr) (ls : List (Int × Int)) (c : Nat), v = .slice a ls.length c ∧ ls.length ≤ maxLen ∧ FRow W a ls := by
  obtain ⟨a0, len0, cap0, rfl⟩ := okWide_slice Try.underlying33 hv
  obtain ⟨fuel, hf⟩ := h0
  rcases open_slice_pairs Try.underlying33 Try.underlying81 cellsFa rfl rfl cellsFi cellsFi hf with ⟨hcs, _⟩ | ⟨a, len, cap, m, n, V0, V1, D0, D1, P0, P1, hcs, _, hl, hcap, hmm, _, hx⟩
  · simp [Value.cells] at hcs
    obtain ⟨rfl, rfl, rfl⟩ := hcs
    exact ⟨none, [], 0, rfl, Nat.zero_le _, Or.inl rfl⟩
  · simp [Value.cells] at hcs
    obtain ⟨rfl, rfl, rfl⟩ := hcs
    have hlm : len0 ≤ m := by rw [hmm]; split <;> omega
    have each : ∀ i, i < len0 → ∃ z : Int × Int, V0 i = .int .i64 z.1 ∧ V1 i = .int .i64 z.2 := by
      intro i hi
      obtain ⟨_, _, t0, t1⟩ := hx i (by omega)
      obtain ⟨z0, e0, _, _⟩ := DataW.trod_int Try.underlying3 t0
      obtain ⟨z1, e1, _, _⟩ := DataW.trod_int Try.underlying3 t1
      simp at e0 e1
      exact ⟨(z0, z1), e0, e1⟩
    obtain ⟨z, hz⟩ := choose_lt each
    have hget : ∀ i, i < len0 → ((List.range len0).map z).getD i (0, 0) = z i := fun i hi => by simp [hi]
    refine ⟨some a, (List.range len0).map z, cap0, by simp, by simp; omega, ?_⟩
    by_cases h : len0 = 0
    · left; subst h; rfl
    · right
      obtain ⟨b, off, spot⟩ := a
      have hc := (hx 0 (by omega)).1
      have hspot : spot = none := by simpa [Addr.add] using World.cell?_spot hc
      subst hspot
      refine ⟨b, off, rfl, World.block_lt_of_cell? W _ hc, ?_⟩
      intro i hi
      simp at hi
      obtain ⟨c0, c1, _, _⟩ := hx i (by omega)
      rw [add_plain] at c0 c1
      rw [hget i hi]
      refine ⟨c0.trans (by rw [(hz i hi).1]), ?_⟩
      rw [← Nat.add_assoc] at c1
      exact c1.trans (by rw [(hz i hi).2])
end Go.Proofs.Ytnjkdfeajlnojaa
namespace Go.Proofs.Ytnjkdfeajlnojaa
open Go.ChangeShapes Go.WideShapes Go.ChangeAt Go.RowKit Go.Deep

/-- A job as it comes in. -/
structure LIn (w : World) (v : Value) (x : Jb.J) : Prop where
  ex : ∃ (a b p r : Option Addr) (c d e t : Nat), v = .agg #[.slice a x.xs.length c, .slice b x.ws.length d, .slice p x.L.length e, .slice r x.M.length t, .int .i64 x.f] ∧ (x.xs.length ≤ maxLen ∧ x.ws.length ≤ maxLen ∧ x.L.length ≤ maxLen ∧ x.M.length ≤ maxLen) ∧ ARow w a x.xs ∧ ARow w b x.ws ∧ FRow w p x.L ∧ FRow w r x.M
theorem cellsJ16 : Try.prog.cellsOf 35 = 5 := by kernel_rfl
theorem cellsS16 : Try.prog.cellsOf 22 = 1 := by kernel_rfl
theorem cellsM16 : Try.prog.cellsOf 33 = 1 := by kernel_rfl
theorem cellsI16 : Try.prog.cellsOf 3 = 1 := by kernel_rfl
theorem trod_struct5 {H : Type} {enc : TypeId × Value → H} {P : Program} {w : World} {base : Nat} {spare : Nat → Bool} {held : Bool} {t : TypeId} {f0 f1 f2 f3 f4 : Field} {fuel : Nat} {cs : List Value} {x : DataW H × List MemPlace} (ht : P.underlying t = some (.struct #[f0, f1, f2, f3, f4])) (h : DataW.trod enc P w base spare held fuel t cs = some x) :
    ∃ y0 y1 y2 y3 y4 n, DataW.trod enc P w base spare held n f0.type ((cs.drop f0.offset).take (P.cellsOf f0.type)) = some y0 ∧ DataW.trod enc P w base spare held n f1.type ((cs.drop f1.offset).take (P.cellsOf f1.type)) = some y1 ∧
      DataW.trod enc P w base spare held n f2.type ((cs.drop f2.offset).take (P.cellsOf f2.type)) = some y2 ∧ DataW.trod enc P w base spare held n f3.type ((cs.drop f3.offset).take (P.cellsOf f3.type)) = some y3 ∧ DataW.trod enc P w base spare held n f4.type ((cs.drop f4.offset).take (P.cellsOf f4.type)) = some y4 := by
  obtain ⟨xs, n, _, rfl, hl, hlen, hf⟩ := DataW.trod_struct ht h
  match xs, hlen with
  | [y0, y1, y2, y3, y4], _ => exact ⟨y0, y1, y2, y3, y4, n, by simpa using hf 0 f0 rfl, by simpa using hf 1 f1 rfl, by simpa using hf 2 f2 rfl, by simpa using hf 3 f3 rfl, by simpa using hf 4 f4 rfl⟩
set_option maxRecDepth 100000 in
theorem opened_mv16 {H : Type} {enc : TypeId × Value → H} {W : World} {fuel : Nat} {v : Value} {x : DataW H × List MemPlace} {sp : Nat → Bool}
    (hf : DataW.trod enc Try.prog W 0 sp true fuel 33 [v] = some x) : ∃ (a : Option Addr) (ls : List (Int × Int)) (c : Nat), v = .slice a ls.length c ∧ ls.length ≤ maxLen ∧ FRow W a ls := by
  rcases open_slice_pairs Try.underlying33 Try.underlying81 cellsFa rfl rfl cellsFi cellsFi hf with ⟨hcs, _⟩ | ⟨a, len, cap, m, n, V0, V1, D0, D1, P0, P1, hcs, _, hl, hcap, hmm, _, hx⟩
  · simp at hcs
    subst hcs
    exact ⟨none, [], 0, rfl, Nat.zero_le _, Or.inl rfl⟩
  · simp at hcs
    subst hcs
    have hlm : len ≤ m := by rw [hmm]; split <;> omega
    have each : ∀ i, i < len → ∃ z : Int × Int, V0 i = .int .i64 z.1 ∧ V1 i = .int .i64 z.2 := by
      intro i hi
      obtain ⟨_, _, t0, t1⟩ := hx i (by omega)
      obtain ⟨z0, e0, _, _⟩ := DataW.trod_int Try.underlying3 t0
      obtain ⟨z1, e1, _, _⟩ := DataW.trod_int Try.underlying3 t1
      simp at e0 e1
      exact ⟨(z0, z1), e0, e1⟩
    obtain ⟨z, hz⟩ := choose_lt each
    have hget : ∀ i, i < len → ((List.range len).map z).getD i (0, 0) = z i := fun i hi => by simp [hi]
    refine ⟨some a, (List.range len).map z, cap, by simp, by simp; omega, ?_⟩
    by_cases h : len = 0
    · left; subst h; rfl
    · right
      obtain ⟨b, off, spot⟩ := a
      have hc := (hx 0 (by omega)).1
      have hspot : spot = none := by simpa [Addr.add] using World.cell?_spot hc
      subst hspot
      refine ⟨b, off, rfl, World.block_lt_of_cell? W _ hc, ?_⟩
      intro i hi
      simp at hi
      obtain ⟨c0, c1, _, _⟩ := hx i (by omega)
      rw [add_plain] at c0 c1
      rw [hget i hi]
      refine ⟨c0.trans (by rw [(hz i hi).1]), ?_⟩
      rw [← Nat.add_assoc] at c1
      exact c1.trans (by rw [(hz i hi).2])
set_option maxRecDepth 100000 in
theorem opened_job {H : Type} {enc : TypeId × Value → H} {W : World} {base : Nat} {v : Value} {x : DataW H} {p : List MemPlace} {sp : Nat → Bool} (hv : Value.okWide Try.prog W .any base 35 v)
    (h0 : DataW.Trod enc Try.prog W 0 sp true 35 v x p) : ∃ y : Jb.J, LIn W v y := by
  obtain ⟨cs, rfl, hsz⟩ := okWide_struct Try.underlying35 hv
  have hcs : cs.size = 5 := hsz.trans cellsJ16
  obtain ⟨c0, c1, c2, c3, c4, rfl⟩ : ∃ c0 c1 c2 c3 c4, cs = #[c0, c1, c2, c3, c4] := by
    obtain ⟨l⟩ := cs
    match l, hcs with
    | [c0, c1, c2, c3, c4], _ => exact ⟨c0, c1, c2, c3, c4, rfl⟩
  obtain ⟨fuel, hf⟩ := h0
  obtain ⟨y0, y1, y2, y3, y4, m, g0, g1, g2, g3, g4⟩ := trod_struct5 Try.underlying35 hf
  simp [Value.cells, cellsS16, cellsI16, cellsM16] at g0 g1 g2 g3 g4
  obtain ⟨a, xs, c, rfl, l0, r0⟩ := opened_ints g0
  obtain ⟨b, ws, d, rfl, l1, r1⟩ := opened_ints g1
  obtain ⟨p2, L, e, rfl, l2, r2⟩ := opened_mv16 g2
  obtain ⟨p3, M, t, rfl, l3, r3⟩ := opened_mv16 g3
  obtain ⟨f, e4, _, _⟩ := DataW.trod_int Try.underlying3 g4
  simp at e4
  subst e4
  exact ⟨⟨xs, ws, L, M, f⟩, a, b, p2, p3, c, d, e, t, rfl, ⟨l0, l1, l2, l3⟩, r0, r1, r2, r3⟩
end Go.Proofs.Ytnjkdfeajlnojaa
namespace Go.Proofs.Ytnjkdfeajlnojaa
open Go.RowKit

set_option maxHeartbeats 400000 in
theorem eqb0_16 (a b : Option Addr) (c d : Nat) (w : World) :
    Calls Try.prog 28 #[.slice a 0 c, .slice b 0 d] w fun e w' => e = .returned (.bool true) ∧ w' = w := by
  go_enter Try.func28, Try.ntmps28
  go_wp2_with fail
  go_loop [5] (fun s => s = .int .i64 0) (fun s => 0)
  case atStart => rfl
  case round =>
    subst hrel
    go_wp2_with fail
    go_ret
    exact ⟨rfl, rfl⟩
set_option maxHeartbeats 1000000 in
theorem eqb1_16 (xs : List Bool) (b o c b' o' c' : Nat) (w : World) (hl : xs.length ≤ 4000000000000) (h1 : ∀ i, i < xs.length → w.cell? ⟨b, o + i, none⟩ = some (.bool (xs.getD i false))) (h2 : ∀ i, i < xs.length → w.cell? ⟨b', o' + i, none⟩ = some (.bool (xs.getD i false))) :
    Calls Try.prog 28 #[.slice (some ⟨b, o, none⟩) xs.length c, .slice (some ⟨b', o', none⟩) xs.length c'] w fun e w' => e = .returned (.bool true) ∧ ∃ m, w' = w.drewN m := by
  have hne : ((xs.length : Int) != (xs.length : Int)) = false := by simp
  go_enter Try.func28, Try.ntmps28
  go_wp2_with fail
  go_loopw [5] (fun s wr => ∃ k : Nat, s = .int .i64 k ∧ k ≤ xs.length ∧ ∃ m, wr = w.drewN m) (fun s _ => xs.length - (intOf s).toNat)
  case atStart => exact ⟨0, rfl, Nat.zero_le _, 0, rfl⟩
  case round =>
    obtain ⟨k, rfl, hk, m, rfl⟩ := hrel
    by_cases hlt : k < xs.length
    · have r1 := h1 k hlt
      have r2 := h2 k hlt
      have i0 : (0 : Int) ≤ (k : Int) := by omega
      have i1 : (k : Int) < (xs.length : Int) := by omega
      generalize xs.getD k false = x at *
      have hxx : (x != x) = false := by simp
      go_wp2_with fail
      go_region
      go_wp2_with fail
      go_roundw
      case rel => exact ⟨k + 1, by go_num, by omega, m + 1, rfl⟩
      case measure => simp only [intOf]; omega
    · go_wp2_with fail
      go_ret
      exact ⟨rfl, m, rfl⟩
theorem own_brow16 {w : World} {base n : Nat} {v : Value} {xs : List Bool} (hn : xs.length = n) (h : w.ownsRow base 4 1 v n (bools xs)) : (n = 0 ∧ ∃ a c, v = .slice a 0 c) ∨ ∃ g c, v = .slice (some ⟨g, 0, none⟩) n c ∧ g < w.heap.size ∧ base ≤ g ∧ (∀ i, i < xs.length → w.cell? ⟨g, 0 + i, none⟩ = some (.bool (xs.getD i false))) ∧ ∀ i, w.frozen? ⟨g, i, none⟩ = false := by
  rcases h.2 with ⟨rfl, h0⟩ | ⟨g, cap, cur, rfl, hb, hg, _⟩
  · exact Or.inl ⟨h0, _, _, rfl⟩
  · refine Or.inr ⟨g, cap, rfl, (Array.getElem?_eq_some_iff.1 hg).1, hb, fun i hi => ?_, fun i => h.frozenAt i⟩
    rw [Nat.zero_add, h.cellAt i (by omega), bools, List.getElem?_map, List.getElem?_eq_getElem hi, List.getD_eq_getElem?_getD, List.getElem?_eq_getElem hi]
    rfl
theorem eqb_16 {v v' : Value} {base base' n : Nat} {xs : List Bool} {w : World} (hn : xs.length = n) (hl : n ≤ 1048576) (h1 : w.ownsRow base 4 1 v n (bools xs)) (h2 : w.ownsRow base' 4 1 v' n (bools xs)) :
    Calls Try.prog 28 #[v, v'] w fun e w' => e = .returned (.bool true) ∧ Below w.heap.size w w' := by
  rcases own_brow16 hn h1 with ⟨h0, a, c, rfl⟩ | ⟨g, c, rfl, _, _, k1, _⟩
  · obtain ⟨b, d, rfl⟩ := own_f16 h2
    rw [h0]
    exact (eqb0_16 _ _ _ _ w).mono fun e w' ⟨h, h'⟩ => ⟨h, h' ▸ Below.refl _ _⟩
  · rcases own_brow16 hn h2 with ⟨h0, a, c', rfl⟩ | ⟨g', c', rfl, _, _, k2, _⟩
    · rw [h0]
      exact (eqb0_16 _ _ _ _ w).mono fun e w' ⟨h, h'⟩ => ⟨h, h' ▸ Below.refl _ _⟩
    · subst hn
      exact (eqb1_16 xs g 0 c g' 0 c' w (by omega) k1 k2).mono fun e w' ⟨h, q, h'⟩ => ⟨h, h' ▸ below_drewN (Below.refl _ _) q⟩
/-- What is held: a mark that hangs on the place. -/
def MkB (k : Int) (j : Nat) : Value := .bool ((k + (j : Int)) % 3 == 0)
def HB16 (w : World) (v : Value) (n : Nat) (k : Int) : Prop := (n = 0 ∧ ∃ a c, v = .slice a 0 c) ∨ ∃ g c, v = .slice (some ⟨g, 0, none⟩) n c ∧ g < w.heap.size ∧ ∀ j : Nat, j < n → w.cell? ⟨g, j, none⟩ = some (MkB k j)
theorem HB16.below {w w' : World} {v : Value} {n : Nat} {k : Int} (h : HB16 w v n k) (hb : Below w.heap.size w w') : HB16 w' v n k := by
  rcases h with h | ⟨g, c, e, hl, hc⟩
  · exact Or.inl h
  · exact Or.inr ⟨g, c, e, Nat.lt_of_lt_of_le hl hb.size, fun j hj => (hb.cell (p := ⟨g, j, none⟩) hl).trans (hc j hj)⟩
set_option maxHeartbeats 1000000 in
theorem markb_16 {g n cap : Nat} {k : Int} {w : World} (hn : n ≤ 1048576) (k0 : 0 ≤ k) (k1 : k ≤ 1000000000) (h : ∀ j : Nat, j < n → (w.cell? ⟨g, j, none⟩).isSome = true ∧ w.frozen? ⟨g, j, none⟩ = false) :
    Calls Try.prog 29 #[.slice (some ⟨g, 0, none⟩) n cap, .int .i64 k] w fun e w' => e = .returned (.int .i64 (k + n)) ∧ w.grownBy w' (some g) ∧ ∀ j : Nat, j < n → w'.cell? ⟨g, j, none⟩ = some (MkB k j) := by
  have HL := hide h
  clear h
  go_enter Try.func29, Try.ntmps29
  go_wp2_with fail
  go_loopw [1, 5] (fun s t wr => ∃ (i : Nat), t = .int .i64 i ∧ s = .int .i64 (k + i) ∧ i ≤ n ∧ Hid (∀ j : Nat, j < n → (wr.cell? ⟨g, j, none⟩).isSome = true ∧ wr.frozen? ⟨g, j, none⟩ = false) ∧ Hid (w.grownBy wr (some g)) ∧ Hid (∀ j : Nat, j < i → wr.cell? ⟨g, j, none⟩ = some (MkB k j))) (fun _ t _ => n - (intOf t).toNat)
  case atStart => exact ⟨0, rfl, by simp, Nat.zero_le _, HL, hide (World.grownBy.refl _ _), hide fun j hj => absurd hj (by omega)⟩
  case round =>
    obtain ⟨i, rfl, rfl, hi, HJ, hg, HC⟩ := hrel
    by_cases hlt : i < n
    · have i0 : (0 : Int) ≤ (i : Int) := by omega
      have i1 : (i : Int) < (n : Int) := by omega
      obtain ⟨q0, f0⟩ := HJ.out i hlt
      obtain ⟨v0, c0⟩ := Option.isSome_iff_exists.1 q0
      go_wp2_with fail
      refine ⟨⟨i + 1, by go_num, by go_num, by omega, hide fun j hj => ?_, hide (grownF_set hg.out), hide fun j hj => ?_⟩, by simp only [intOf]; omega⟩
      · obtain ⟨h1, h2⟩ := HJ.out j hj
        refine ⟨?_, by rw [World.frozen?_setCell]; exact h2⟩
        by_cases e : j = i
        · subst e; rw [World.cell?_setCell_same _ _ _ c0]; rfl
        · rw [World.cell?_setCell_other _ _ _ _ (fun e' => e (by injection e' with _ e2; exact e2.symm))]; exact h1
      · by_cases e : j = i
        · subst e; exact World.cell?_setCell_same _ _ _ c0
        · rw [World.cell?_setCell_other _ _ _ _ (fun e' => e (by injection e' with _ e2; exact e2.symm))]; exact HC.out j (by omega)
    · have hin : i = n := by omega
      subst hin
      go_wp2_with fail
      go_ret
      exact ⟨rfl, hg.out, HC.out⟩
theorem mark_b16 {v : Value} {base n : Nat} {xs : List Bool} {k : Int} {w : World} (hx : xs.length = n) (hn : n ≤ 1048576) (k0 : 0 ≤ k) (k1 : k ≤ 1000000000) (h : w.ownsRow base 4 1 v n (bools xs)) :
    Calls Try.prog 29 #[v, .int .i64 k] w fun e w' => e = .returned (.int .i64 (k + n)) ∧ HB16 w' v n k ∧ w.grownBy w' v.ownBlock := by
  rcases own_brow16 hx h with ⟨h0, a, c, rfl⟩ | ⟨g, c, rfl, hg, _, hc, hz⟩
  · subst h0
    have hmz : Calls Try.prog 29 #[.slice a 0 c, .int .i64 k] w fun e w' => e = .returned (.int .i64 k) ∧ w' = w := by
      go_enter Try.func29, Try.ntmps29
      go_wp2_with fail
      go_loop [1, 5] (fun s t => s = .int .i64 k ∧ t = .int .i64 0) (fun s t => 0)
      case atStart => exact ⟨rfl, rfl⟩
      case round =>
        obtain ⟨rfl, rfl⟩ := hrel
        go_wp2_with fail
        go_ret
        exact ⟨rfl, rfl⟩
    exact hmz.mono fun e w' ⟨he, hw⟩ => ⟨by rw [he]; simp, Or.inl ⟨rfl, a, c, rfl⟩, hw ▸ World.grownBy.refl _ _⟩
  · exact (markb_16 hn k0 k1 fun j hj => ⟨by have := hc j (by omega); rw [Nat.zero_add] at this; rw [this]; rfl, hz j⟩).mono fun e w' ⟨he, hgr, hm⟩ => ⟨he, Or.inr ⟨g, c, rfl, Nat.lt_of_lt_of_le hg hgr.size, hm⟩, hgr⟩
set_option maxHeartbeats 1000000 in
theorem held_b16 {v : Value} {n : Nat} {k : Int} {w : World} (hn : n ≤ 1048576) (k0 : 0 ≤ k) (k1 : k ≤ 1000000000) (h : HB16 w v n k) :
    Calls Try.prog 30 #[v, .int .i64 k] w fun e w' => e = .returned (.int .i64 (k + n)) ∧ w' = w := by
  rcases h with ⟨h0, a, c, rfl⟩ | ⟨g, c, rfl, hg, hc⟩
  · subst h0
    go_enter Try.func30, Try.ntmps30
    go_wp2_with fail
    go_loop [1, 4, 5] (fun s _ t => s = .int .i64 k ∧ t = .int .i64 0) (fun s _ t => 0)
    case atStart => exact ⟨rfl, rfl⟩
    case round =>
      obtain ⟨rfl, rfl⟩ := hrel
      go_wp2_with fail
      go_ret
      exact ⟨by simp, rfl⟩
  · have HC := hide hc
    clear hc
    go_enter Try.func30, Try.ntmps30
    go_wp2_with fail
    go_loop [1, 4, 5] (fun s _ t => ∃ (i : Nat), t = .int .i64 i ∧ s = .int .i64 (k + i) ∧ i ≤ n) (fun _ _ t => n - (intOf t).toNat)
    case atStart => exact ⟨0, rfl, by simp, Nat.zero_le _⟩
    case round =>
      obtain ⟨i, rfl, rfl, hi⟩ := hrel
      by_cases hlt : i < n
      · have i0 : (0 : Int) ≤ (i : Int) := by omega
        have i1 : (i : Int) < (n : Int) := by omega
        have c0 := HC.out i hlt
        unfold MkB at c0
        have hbb : (((k + (i : Int)) % 3 == 0) != ((k + (i : Int)) % 3 == 0)) = false := by simp
        go_wp2_with fail
        go_round
        case rel => exact ⟨i + 1, by go_num, by go_num, by omega⟩
        case measure => simp only [intOf]; omega
      · have hin : i = n := by omega
        subst hin
        go_wp2_with fail
        go_ret
        exact ⟨rfl, rfl⟩
theorem HJ.keepB {w w' : World} {a b l m : Value} {x : Jb.J} {k : Int} (h : HJ w (.agg #[a, b, l, m, .int .i64 x.f]) x k) (hs : w.heap.size ≤ w'.heap.size) (hb : ∀ g, Blk a b l m x g → w'.heap[g]? = w.heap[g]?) : HJ w' (.agg #[a, b, l, m, .int .i64 x.f]) x k := by
  obtain ⟨a', b', l', m', e, h2, h3, h4, h5⟩ := h.ex
  cases e
  exact ⟨a, b, l, m, rfl, HeldV.keep h2 hs fun g e => hb g (Or.inl e), HeldV.keep h3 hs fun g e => hb g (Or.inr (Or.inl e)), h4.keep hs fun g e => hb g (Or.inr (Or.inr (Or.inl e))), h5.keep hs fun g e => hb g (Or.inr (Or.inr (Or.inr e)))⟩
/-- A job and which orders were done, each of its own. -/
def PR (w : World) (lo hi : Nat) (u d : Value) (Y : Jb.J) (n : Nat) (D : List Bool) : Prop := ∃ a b l m, u = .agg #[a, b, l, m, .int .i64 Y.f] ∧ JR w lo hi (.agg #[a, b, l, m, .int .i64 Y.f]) Y ∧ w.ownsRow lo 4 1 d n (bools D) ∧ ∀ g, Blk a b l m Y g → d.ownBlock ≠ some g
theorem plV_le (xs ws os : List Int) : (plV xs ws os).xs.length ≤ 1048576 ∧ (plV xs ws os).ws.length ≤ 1048576 ∧ (plV xs ws os).L.length ≤ 1048576 ∧ (plV xs ws os).M.length ≤ 1048576 := by
  cases h : plB xs ws os
  · rw [(pl_no h).1]; exact ⟨Nat.zero_le _, Nat.zero_le _, Nat.zero_le _, Nat.zero_le _⟩
  · rw [(pl_yes h).1]
    have hs : Mx.sameB xs ws = true := by unfold plB at h; cases hs : Mx.sameB xs ws <;> simp_all
    exact fit_le (Jb.play_fit (Jb.new_fit hs) _)
theorem plD_le (xs ws os : List Int) : (plD xs ws os).length ≤ 1048576 := by
  cases h : plB xs ws os
  · rw [(pl_no h).2]; exact Nat.zero_le _
  · rw [(pl_yes h).2, Jb.play_len]
    have : os.length ≤ 60 := by unfold plB at h; simp at h; exact h.2
    omega
theorem pl_r {a b p : Option Addr} {n m q c d e : Nat} {xs ws os : List Int} {w : World} (hx : xs.length = n) (hy : ws.length = m) (ho : os.length = q) (hc : n ≤ c) (hd : m ≤ d) (ha : ARow w a xs) (hb : ARow w b ws) (hp : ARow w p os) (hql : q ≤ 1048576) :
    Calls Try.prog 27 #[.slice a n c, .slice b m d, .slice p q e] w fun r w' => ∃ u v, r = .returned (.tuple #[u, v, .bool (plB xs ws os)]) ∧ Below w.heap.size w w' ∧ PR w' w.heap.size w'.heap.size u v (plV xs ws os) (plD xs ws os).length (plD xs ws os) :=
  (pj_w hx hy ho hc hd ha hb hp hql).mono fun _ _ ⟨a, b, l, m, d, he, hw, h1, h2, h3⟩ => ⟨_, d, he, hw, a, b, l, m, rfl, h1, h2, h3⟩
theorem spl_r {a b p : Option Addr} {n m q c d e : Nat} {xs ws os : List Int} {w : World} (hx : xs.length = n) (hy : ws.length = m) (ho : os.length = q) (hc : n ≤ c) (hd : m ≤ d) (ha : ARow w a xs) (hb : ARow w b ws) (hp : ARow w p os) (hql : q ≤ 1048576) :
    Calls Try.prog 26 #[.slice a n c, .slice b m d, .slice p q e] w fun r w' => ∃ u v, r = .returned (.tuple #[u, v, .bool (plB xs ws os)]) ∧ Below w.heap.size w w' ∧ PR w' w.heap.size w'.heap.size u v (plV xs ws os) (plD xs ws os).length (plD xs ws os) :=
  (spj_w hx hy ho hc hd ha hb hp hql).mono fun _ _ ⟨a, b, l, m, d, he, hw, h1, h2, h3⟩ => ⟨_, d, he, hw, a, b, l, m, rfl, h1, h2, h3⟩
set_option maxHeartbeats 4000000 in
theorem markJ_fine {lo hi : Nat} {a b l m : Value} {x : Jb.J} {k : Int} {w : World} (hl : x.xs.length ≤ 1048576 ∧ x.ws.length ≤ 1048576 ∧ x.L.length ≤ 1048576 ∧ x.M.length ≤ 1048576) (k0 : 0 < k) (k1 : k ≤ 1000) (h : JR w lo hi (.agg #[a, b, l, m, .int .i64 x.f]) x) :
    Calls Try.prog 15 #[.agg #[a, b, l, m, .int .i64 x.f], .int .i64 k] w fun e w' => e = .returned (.int .i64 (k + (wgt x : Nat))) ∧ HJ w' (.agg #[a, b, l, m, .int .i64 x.f]) x k ∧ Rng lo hi w w' ∧ ∀ q, q < w.heap.size → ¬ Blk a b l m x q → w'.heap[q]? = w.heap[q]? := by
  obtain ⟨l1, l2, l3, l4⟩ := hl
  obtain ⟨a', b', l', m', e, h2, h3, h4, h5, h6, h7, d1, d2, d3, d4, d5, d6⟩ := h.ex
  cases e
  have hj0 := JW.new w 25 a b l m (.int .i64 x.f)
  have hb0 := below_new w (.cells #[a, b, l, m, .int .i64 x.f] 25)
  have hs : (w.alloc (.cells #[a, b, l, m, .int .i64 x.f] 25)).heap.size = w.heap.size + 1 := World.size_alloc _ _
  have kk0 := hide fun (q : Nat) (hq : q < w.heap.size) (_ : ¬ Blk a b l m x q) => hb0.block q hq
  have ss0 := hb0.size
  have hr0 : Rng lo hi w (w.alloc (.cells #[a, b, l, m, .int .i64 x.f] 25)) := Rng.of16 hb0
  have h2' := own_below h2 hb0
  have h3' := own_below h3 hb0
  have h4' := h4.below hb0
  have h5' := h5.below hb0
  obtain ⟨c0, c1, c2, c3, c4⟩ := hj0.cells
  have Hb : ∀ g, g < hi → g ≠ w.heap.size := fun g hg => by omega
  have hqa : ∀ g, a.ownBlock = some g → lo ≤ g ∧ g < hi := fun g e => h6 g (Or.inl e)
  have hqb : ∀ g, b.ownBlock = some g → lo ≤ g ∧ g < hi := fun g e => h6 g (Or.inr (Or.inl e))
  have hql : ∀ g, moB l x.L.length = some g → lo ≤ g ∧ g < hi := fun g e => h6 g (Or.inr (Or.inr (Or.inl e)))
  have hqm : ∀ g, moB m x.M.length = some g → lo ≤ g ∧ g < hi := fun g e => h6 g (Or.inr (Or.inr (Or.inr e)))
  have hwg : (wgt x : Nat) = x.xs.length + x.ws.length + x.L.length * 2 + x.M.length * 2 := rfl
  generalize wgt x = W at *
  have HW := hide hwg
  clear h h2 h3 h4 h5 h6 hb0 hs hwg
  go_enter Try.func15, Try.ntmps15
  go_wp2_with fail
  refine (markV_any (rfl : x.xs.length = _) l1 (by omega) (by omega) h2').mono ?_
  rintro _ w1 ⟨rfl, s1, g1⟩
  have kk1 := hide fun (q : Nat) (hq : q < w.heap.size) (hn : ¬ Blk a b l m x q) => (g1.block q (by omega) fun e => hn (Or.inl e.symm)).trans (kk0.out q hq hn)
  have ss1 := Nat.le_trans ss0 g1.size
  have r1 := hr0.step16 g1 hqa
  have j1 := hj0.grown g1 (fun e => by have := hqa _ e; exact Hb _ this.2 rfl)
  have t3 := own_dis16 h3' g1 d1
  have t4 := mv_dis16 h4' g1 d2
  have t5 := mv_dis16 h5' g1 d3
  clear c0 c1 c2 c3 c4 hj0 h2' h3' h4' h5' hr0 g1
  obtain ⟨c0, c1, c2, c3, c4⟩ := j1.cells
  go_wp2_with fail
  refine (markV_any (rfl : x.ws.length = _) l2 (by omega) (by omega) t3).mono ?_
  rintro _ w2 ⟨rfl, s2, g2⟩
  have kk2 := hide fun (q : Nat) (hq : q < w.heap.size) (hn : ¬ Blk a b l m x q) => (g2.block q (by omega) fun e => hn (Or.inr (Or.inl e.symm))).trans (kk1.out q hq hn)
  have ss2 := Nat.le_trans ss1 g2.size
  have r2 := r1.step16 g2 hqb
  have j2 := j1.grown g2 (fun e => by have := hqb _ e; exact Hb _ this.2 rfl)
  have u4 := mv_dis16 t4 g2 d4
  have u5 := mv_dis16 t5 g2 d5
  have s1' := hv_dis16 s1 g2 d1.symm
  clear c0 c1 c2 c3 c4 j1 t3 t4 t5 r1 s1 g2
  obtain ⟨c0, c1, c2, c3, c4⟩ := j2.cells
  go_wp2_with fail
  refine (mark_mv l3 (by omega) (by omega) u4).mono ?_
  rintro _ w3 ⟨rfl, s3, g3⟩
  have kk3 := hide fun (q : Nat) (hq : q < w.heap.size) (hn : ¬ Blk a b l m x q) => (g3.block q (by omega) fun e => hn (Or.inr (Or.inr (Or.inl e.symm)))).trans (kk2.out q hq hn)
  have ss3 := Nat.le_trans ss2 g3.size
  have r3 := r2.step16 g3 hql
  have j3 := j2.grown g3 (fun e => by have := hql _ e; exact Hb _ this.2 rfl)
  have v5 := mv_dis16 u5 g3 d6
  have s1'' := hv_dis16 s1' g3 d2.symm
  have s2' := hv_dis16 s2 g3 d4.symm
  clear c0 c1 c2 c3 c4 j2 u4 u5 r2 s1' s2 g3
  obtain ⟨c0, c1, c2, c3, c4⟩ := j3.cells
  go_wp2_with fail
  refine (mark_mv l4 (by omega) (by omega) v5).mono ?_
  rintro _ w4 ⟨rfl, s4, g4⟩
  have kk4 := hide fun (q : Nat) (hq : q < w.heap.size) (hn : ¬ Blk a b l m x q) => (g4.block q (by omega) fun e => hn (Or.inr (Or.inr (Or.inr e.symm)))).trans (kk3.out q hq hn)
  have ss4 := Nat.le_trans ss3 g4.size
  have r4 := r3.step16 g4 hqm
  have z1 := hv_dis16 s1'' g4 d3.symm
  have z2 := hv_dis16 s2' g4 d5.symm
  have z3 := mh_dis16 s3 g4 d6.symm
  clear c0 c1 c2 c3 c4 j3 v5 r3 s1'' s2' s3 g4
  go_wp2_with fail
  go_ret
  exact ⟨by rw [HW.out]; go_num, ⟨a, b, l, m, rfl, z1, z2, z3, s4⟩, r4, kk4.out⟩
end Go.Proofs.Ytnjkdfeajlnojaa
