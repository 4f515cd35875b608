/-
  In one: Bz11.
-/
import Derived.Test.YtnfcedccjfnceaaY3
import Derived.RangeFuncCalls
namespace Go.Proofs.Ytnfcedccjfnceaa
open Go.RowKit

attribute [local go_sem] Oper.semAt_some
theorem kb_below {B : Nat} {W W' : World} (h : Below W.heap.size W W') : Kb B W W' := ⟨h.size, fun k _ _ hk => (h.block k (Array.getElem?_eq_some_iff.1 hk).1).trans hk⟩
theorem kb_set {B b o : Nat} {W : World} (hb : b < B) (v : Value) : Kb B W (W.setCell ⟨b, o, none⟩ v) := ⟨by simp, fun k _ hk h => (Below.heap_setCell W ⟨b, o, none⟩ v k (by show k ≠ b; omega)).trans h⟩
/-- The first best of what has come. -/
def BtB (W : World) (B n : Nat) (L : List (Int × Int)) (v : Value) (z : Int) : Option (List Nat) → Prop
  | none => v = .slice none 0 0 ∧ z = 0
  | some o => W.ownsRow B 3 1 v n (ints (cst o)) ∧ z = Rt.costN L o ∧ Rt.Bg n 0 o
def BtI (w : World) (P B n c : Nat) (a : Option Addr) (L : List (Int × Int)) (pre : List (List Nat)) (W : World) : Prop :=
  ∃ v z, W.cell? ⟨P, 0, none⟩ = some v ∧ W.frozen? ⟨P, 0, none⟩ = false ∧ W.cell? ⟨P + 1, 0, none⟩ = some (.int .i64 z) ∧ W.frozen? ⟨P + 1, 0, none⟩ = false ∧ BtB W B n L v z (Rt.fb (Rt.costN L) none pre) ∧ W.cell? ⟨w.heap.size, 0, none⟩ = some (.slice a n c) ∧ Below w.heap.size w W ∧ B ≤ W.heap.size
theorem BtB.st {W W' : World} {B C n : Nat} {L : List (Int × Int)} {v : Value} {z : Int} : ∀ {o : Option (List Nat)}, BtB W B n L v z o → St C W W' → BtB W' B n L v z o
  | none, h, _ => h
  | some _, h, hs => ⟨own_st h.1 hs, h.2⟩
theorem bt_store {w V : World} {P n c : Nat} {a : Option Addr} {L : List (Int × Int)} {pre : List (List Nat)} {x : List Nat} {vx v0 v1 : Value} (hP : w.heap.size < P) (k1 : V.cell? ⟨P, 0, none⟩ = some v0) (k2 : V.frozen? ⟨P, 0, none⟩ = false) (k3 : V.cell? ⟨P + 1, 0, none⟩ = some v1) (k4 : V.frozen? ⟨P + 1, 0, none⟩ = false)
    (k6 : V.cell? ⟨w.heap.size, 0, none⟩ = some (.slice a n c)) (k7 : Below w.heap.size w V) (k8 : P + 1 + 1 ≤ V.heap.size) (hx : V.ownsRow (P + 1 + 1) 3 1 vx n (ints (cst x))) (hb : Rt.Bg n 0 x) (hE : Rt.fb (Rt.costN L) none (pre ++ [x]) = some x) :
    BtI w P (P + 1 + 1) n c a L (pre ++ [x]) ((V.setCell ⟨P, 0, none⟩ vx).setCell ⟨P + 1, 0, none⟩ (.int .i64 (Rt.costN L x))) := by
  have f0 : LooseF V P 1 := fun j hj => by
    obtain rfl : j = 0 := by omega
    exact ⟨by rw [k1]; rfl, k2⟩
  have f1 : LooseF (V.setCell ⟨P, 0, none⟩ vx) P 1 := LooseF.set (i := 0) (v := vx) f0
  have f2 : LooseF (V.setCell ⟨P, 0, none⟩ vx) (P + 1) 1 := fun j hj => by
    obtain rfl : j = 0 := by omega
    have hk := Below.heap_setCell V ⟨P, 0, none⟩ vx (P + 1) (by show P + 1 ≠ P; omega)
    exact ⟨by rw [World.cell?_of_block (w := V) (a := ⟨P + 1, 0, none⟩) hk, k3]; rfl, (World.frozen?_of_block (w := V) (a := ⟨P + 1, 0, none⟩) hk).trans k4⟩
  have g1 : (V.setCell ⟨P, 0, none⟩ vx).cell? ⟨P, 0, none⟩ = some vx := World.cell?_setCell_same _ _ _ k1
  have hk1 := Below.heap_setCell (V.setCell ⟨P, 0, none⟩ vx) ⟨P + 1, 0, none⟩ (.int .i64 (Rt.costN L x)) P (by show P ≠ P + 1; omega)
  have f3 := LooseF.set (i := 0) (v := .int .i64 (Rt.costN L x)) f2
  refine ⟨vx, Rt.costN L x, (World.cell?_of_block (a := ⟨P, 0, none⟩) hk1).trans g1, (World.frozen?_of_block (a := ⟨P, 0, none⟩) hk1).trans (f1 0 (by omega)).2, setF1 (f2 0 (by omega)).1, (f3 0 (by omega)).2, ?_, ?_, (k7.setCell (p := ⟨P, 0, none⟩) (by show w.heap.size ≤ P; omega) _).setCell (p := ⟨P + 1, 0, none⟩) (by show w.heap.size ≤ P + 1; omega) _, by simpa using k8⟩
  · rw [hE]
    refine ⟨own_keep hx fun g hv _ => ?_, rfl, hb⟩
    have hg := (hx.lt g hv).1
    exact (Below.heap_setCell _ ⟨P + 1, 0, none⟩ _ g (by show g ≠ P + 1; omega)).trans (Below.heap_setCell _ ⟨P, 0, none⟩ _ g (by show g ≠ P; omega))
  · exact (World.cell?_of_block (w := V) (a := ⟨w.heap.size, 0, none⟩) ((Below.heap_setCell _ ⟨P + 1, 0, none⟩ _ w.heap.size (by show w.heap.size ≠ P + 1; omega)).trans (Below.heap_setCell _ ⟨P, 0, none⟩ _ w.heap.size (by show w.heap.size ≠ P; omega)))).trans k6
theorem nil_yes (W : World) : Sem.run Try.prog (binOp BinOp.eql 24 (.slice none 0 0) (.slice none 0 0)) W = .ok (.bool true) W := by
  first
  | rfl
  | simp [binOp, go_sem, Try.underlying24]
  | (unfold binOp; simp [go_sem, Try.underlying24])
theorem nil_no (g n c : Nat) (W : World) : Sem.run Try.prog (binOp BinOp.eql 24 (.slice (some ⟨g, 0, none⟩) n c) (.slice none 0 0)) W = .ok (.bool false) W := by
  first
  | rfl
  | simp [binOp, go_sem, Try.underlying24]
  | (unfold binOp; simp [go_sem, Try.underlying24])
set_option maxRecDepth 100000 in
set_option maxHeartbeats 4000000 in
theorem bt_w {a : Option Addr} {n c : Nat} {L : List (Int × Int)} {w : World} (hl : L.length = n) (hn : n ≤ 1048576) (ha : FRow w a L) :
    Calls Try.prog 10 #[.slice a n c] w fun e w' => BT w w' L e := by
  have HL := hide hl
  have hA := below_alloc w (.cells #[.slice a n c] 23)
  have HA := hide (ha.below hA)
  cases hg : Rt.stopsB L
  · obtain ⟨e1, e2⟩ := bt_no hg
    have HE : Hid (∀ w' e, Below w.heap.size w w' → e = .returned (.tuple #[.slice none 0 0, .int .i64 0, .bool false]) → BT w w' L e) := hide fun w' e hb he => ⟨.slice none 0 0, by rw [he, e2, hg], hb, by rw [e1]; exact av_none _ _⟩
    have HG := hide hg
    have HAA := hide hA
    clear hg e1 e2 ha hl hA
    go_enter Try.func10, Try.ntmps10
    go_wp2_with fail
    refine (gst_eq HL HA HG).mono ?_
    rintro e w1 ⟨rfl, hb1⟩
    have B1 := hide (HAA.out.trans (hb1.mono HAA.out.size))
    clear hb1
    go_wp2_with fail
    exact bodyPost_ret (v := .tuple #[.slice none 0 0, .int .i64 0, .bool false]) (by simp [results, Try.results10, go_sem]) rfl (HE.out _ _ B1.out rfl)
  · obtain ⟨s1, s2⟩ := Rt.stops_len hg
    have n7 : n ≤ 7 := by omega
    have n1 : 1 ≤ n := by omega
    obtain ⟨e1, e2, e3⟩ := bt_is hl hg
    have HG := hide hg
    have hs := Rt.stops_all hg
    refine callsIn_wide.1 (callsIn_of_wp_marks (F := Fence.wide) (n := 0) Try.func10 rfl trivial ?_ rfl)
    simp only [Try.ntmps10, List.size_toArray, List.length_cons, List.length_nil, Nat.reduceAdd, Nat.reduceSub, Array.replicate_succ, Array.replicate_zero, List.push_toArray, List.append_toArray, List.nil_append, List.cons_append]
    gi_wp2
    refine ⟨trivial, rfl, callsIn_wide.2 ((gst_eq HL HA HG).mono ?_)⟩
    rintro e w1 ⟨rfl, hb1⟩
    have b0 : w1.cell? ⟨w.heap.size, 0, none⟩ = some (.slice a n c) := (hb1.cell (p := ⟨w.heap.size, 0, none⟩) (by simp)).trans (by simp)
    have B1 := hA.trans (hb1.mono hA.size)
    have z0 : w.heap.size < w1.heap.size := World.block_lt_of_cell? w1 _ b0
    obtain ⟨W2, hW2⟩ : ∃ W2, ((w1.alloc (.cells #[.slice none 0 0] 24)).alloc (.cells #[.int .i64 0] 3)).alloc (.cells #[.int .i64 0] 3) = W2 := ⟨_, rfl⟩
    have hb2 : Below w1.heap.size w1 W2 := hW2 ▸ ((below_two w1 _ _).alloc (by simp; omega) _)
    have q0 : W2.cell? ⟨w.heap.size, 0, none⟩ = some (.slice a n c) := (hb2.cell (p := ⟨w.heap.size, 0, none⟩) z0).trans b0
    have q1 : W2.cell? ⟨w1.heap.size, 0, none⟩ = some (.slice none 0 0) := by
      rw [← hW2]
      refine ((below_alloc _ (.cells #[.int .i64 0] 3)).cell (p := ⟨w1.heap.size, 0, none⟩) (by simp; omega)).trans ?_
      simp
    have q2 : W2.frozen? ⟨w1.heap.size, 0, none⟩ = false := by
      rw [← hW2]
      refine ((below_alloc _ (.cells #[.int .i64 0] 3)).frozen (p := ⟨w1.heap.size, 0, none⟩) (by simp; omega)).trans (((below_alloc _ (.cells #[.int .i64 0] 3)).frozen (p := ⟨w1.heap.size, 0, none⟩) (by simp)).trans ?_)
      simp [go_sem]
    have q3 : W2.cell? ⟨w1.heap.size + 1, 0, none⟩ = some (.int .i64 0) := by
      rw [← hW2]
      refine ((below_alloc _ (.cells #[.int .i64 0] 3)).cell (p := ⟨w1.heap.size + 1, 0, none⟩) (by simp)).trans ?_
      simp
    have q4 : W2.frozen? ⟨w1.heap.size + 1, 0, none⟩ = false := by
      rw [← hW2]
      refine ((below_alloc _ (.cells #[.int .i64 0] 3)).frozen (p := ⟨w1.heap.size + 1, 0, none⟩) (by simp)).trans ?_
      have := madeF_frozen (w1.alloc (.cells #[.slice none 0 0] 24)) #[.int .i64 0] 0 3
      rwa [World.size_alloc] at this
    have q5 : W2.ownsRow (w1.heap.size + 1 + 1) 3 1 (.slice (some ⟨w1.heap.size + 1 + 1, 0, none⟩) 1 1) 1 (ints (cst [0])) := by
      have h := World.ownsRow_lit (base := w1.heap.size + 1 + 1) (e := 3) (size := 1) ((w1.alloc (.cells #[.slice none 0 0] 24)).alloc (.cells #[.int .i64 0] 3)) #[.int .i64 0] 1 (by simp) (by unfold maxLen; omega) (by simp)
      rw [← hW2]
      simpa [ints, cst] using h
    have z2 : W2.heap.size = w1.heap.size + 3 := by rw [← hW2]; simp
    have HZ2 := hide z2
    clear z2
    gi_wp2
    obtain ⟨W3, hW3⟩ : ∃ W3, (W2.alloc (.cells #[.slice (some ⟨w1.heap.size + 1 + 1, 0, none⟩) 1 1] 24)).alloc (.cells #[.int .i64 (n : Int)] 3) = W3 := ⟨_, rfl⟩
    refine ⟨trivial, rfl, callsIn_wide.2 ((of_make _ n W2 rfl).mono ?_)⟩
    rintro e W4 ⟨rfl, hw4⟩
    obtain rfl : W3 = W4 := hW3.symm.trans hw4.symm
    have hb3 : Below W2.heap.size W2 W3 := hW3 ▸ below_two W2 _ _
    have x1 : W3.cell? ⟨W2.heap.size, 0, none⟩ = some (.slice (some ⟨w1.heap.size + 1 + 1, 0, none⟩) 1 1) := by rw [← hW3]; simp
    have x2 : W3.cell? ⟨W2.heap.size + 1, 0, none⟩ = some (.int .i64 (n : Int)) := by rw [← hW3]; simp
    have z3 : W3.heap.size = W2.heap.size + 2 := by rw [← hW3]; simp
    have hB03 : Below w.heap.size w W3 := (B1.trans (hb2.mono B1.size)).trans (hb3.mono (by have := B1.size; have := HZ2.out; omega))
    have z2 := HZ2.out
    have I0 : BtI w w1.heap.size (w1.heap.size + 1 + 1) n c a L [] W3 := by
      refine ⟨.slice none 0 0, 0, (hb3.cell (p := ⟨w1.heap.size, 0, none⟩) (by show w1.heap.size < _; omega)).trans q1, (hb3.frozen (p := ⟨w1.heap.size, 0, none⟩) (by show w1.heap.size < _; omega)).trans q2, (hb3.cell (p := ⟨w1.heap.size + 1, 0, none⟩) (by show w1.heap.size + 1 < _; omega)).trans q3, (hb3.frozen (p := ⟨w1.heap.size + 1, 0, none⟩) (by show w1.heap.size + 1 < _; omega)).trans q4, ⟨rfl, rfl⟩, (hb3.cell (p := ⟨w.heap.size, 0, none⟩) (by show w.heap.size < _; omega)).trans q0, hB03, by omega⟩
    have HZ3 : Hid (W3.heap.size = W2.heap.size + 2) := hide z3
    clear hW2 hW3 hw4 z2 z3
    gi_wp2
    refine range_all (gf := 51) (lb := #[.pointer (some ⟨W2.heap.size, 0, none⟩), .pointer (some ⟨W2.heap.size + 1, 0, none⟩)]) rfl (enters_of Try.func51 (by kernel_rfl) rfl) (T := TO n (w1.heap.size + 1 + 1)) (B := w1.heap.size + 1 + 1) (S := Rt.ords n (n - 1) [0]) (by have := HZ2.out; have := HZ3.out; omega)
      (of_seq n7 (n - 1) (b := [0]) (Bs := W2.heap.size) (Bm := W2.heap.size + 1) (g := w1.heap.size + 1 + 1) (cg := 1) (Rt.bg_zero n1) (by simp) (by have := HZ2.out; omega) (by have := HZ2.out; omega) x1 x2 (own_below q5 hb3)) rfl (fun x v A C ht hst => ⟨own_st ht.1 hst, ht.2⟩)
      (BtI w w1.heap.size (w1.heap.size + 1 + 1) n c a L) ?stab I0 ?round ?done
    case stab =>
      have z2 := HZ2.out
      have z3 := HZ3.out
      rintro s A C ⟨v, z, j1, j2, j3, j4, j5, j6, j7, j8⟩ hst
      exact ⟨v, z, (hst.b.cell (p := ⟨w1.heap.size, 0, none⟩) (by show w1.heap.size < _; omega)).trans j1, (hst.b.frozen (p := ⟨w1.heap.size, 0, none⟩) (by show w1.heap.size < _; omega)).trans j2, (hst.b.cell (p := ⟨w1.heap.size + 1, 0, none⟩) (by show w1.heap.size + 1 < _; omega)).trans j3, (hst.b.frozen (p := ⟨w1.heap.size + 1, 0, none⟩) (by show w1.heap.size + 1 < _; omega)).trans j4, j5.st hst, (hst.b.cell (p := ⟨w.heap.size, 0, none⟩) (by show w.heap.size < _; omega)).trans j6, j7.trans (hst.b.mono (by omega)), Nat.le_trans j8 hst.b.size⟩
    case round =>
      intro l2 pre x vx Wr
      gi_wp2
      refine ⟨trivial, ?_⟩
      rintro W5 ⟨v, z, j1, j2, j3, j4, j5, j6, j7, j8⟩ ht
      obtain ⟨ax, cx, rfl, rx⟩ := own_row (by rw [cst_len]; have := ht.2.len; omega) ht.1
      have hxl : x.length = n := by have := ht.2.len; omega
      have HRC := rc_any (c := c) (d := cx) (w := W5) (os := cst x) HL (hide (by rw [cst_len]; exact hxl)) n1 n7 (hide hs) (hide (Rt.bg_in hl ht.2)) (hide (ha.below j7)) (hide rx)
      rw [show Rt.tour L (cst x) = Rt.costN L x from rfl] at HRC
      have lP := World.block_lt_of_cell? W5 _ j1
      have lQ := World.block_lt_of_cell? W5 _ j3
      have lL := World.block_lt_of_cell? W5 _ j6
      have hfb : Rt.fb (Rt.costN L) none (pre ++ [x]) = Rt.comb (Rt.costN L) (Rt.fb (Rt.costN L) none pre) (some x) := by rw [Rt.fb_append, Rt.fb_one]
      gi_wp2
      refine ⟨trivial, rfl, CallsIn.inRound l2 (callsIn_wide.2 (HRC.mono ?_))⟩
      rintro e W6 ⟨rfl, hb6⟩
      have k1 := (hb6.cell lP).trans j1
      have k2 := (hb6.frozen lP).trans j2
      have k3 := (hb6.cell lQ).trans j3
      have k4 := (hb6.frozen lQ).trans j4
      have k6 := (hb6.cell lL).trans j6
      have k7 := j7.trans (hb6.mono j7.size)
      have hx6 := own_below ht.1 hb6
      have hz6 := hb6.size
      have SB : ∀ (v' : Value) (z' : Int), Kb (w1.heap.size + 1 + 1) W5 ((W6.setCell ⟨w1.heap.size, 0, none⟩ v').setCell ⟨w1.heap.size + 1, 0, none⟩ (.int .i64 z')) := fun v' z' => (kb_below hb6).trans ((kb_set (by omega) v').trans (kb_set (by omega) _))
      cases ho : Rt.fb (Rt.costN L) none pre with
      | none =>
        rw [ho] at j5 hfb
        obtain ⟨rfl, rfl⟩ := j5
        have hnil := nil_yes W6
        gi_wp2
        exact ⟨SB _ _, bt_store z0 k1 k2 k3 k4 k6 k7 (by omega) hx6 ht.2 hfb⟩
      | some y =>
        rw [ho] at j5 hfb
        obtain ⟨o5, rfl, hy⟩ := j5
        obtain ⟨gv, cv, rfl, _, _⟩ := o5.form (by omega)
        have o6 := own_below o5 hb6
        have hnil := nil_no gv n cv W6
        by_cases hlt : Rt.costN L x < Rt.costN L y
        · gi_wp2
          exact ⟨SB _ _, bt_store z0 k1 k2 k3 k4 k6 k7 (by omega) hx6 ht.2 (by rw [hfb]; simp [Rt.comb, hlt])⟩
        · gi_wp2
          exact ⟨kb_below hb6, _, _, k1, k2, k3, k4, by rw [hfb]; simp only [Rt.comb, if_neg (Int.not_lt.2 hlt)]; exact ⟨o6, rfl, hy⟩, k6, k7, by omega⟩
    case done =>
      rintro D W5 hD ⟨v, z, j1, j2, j3, j4, j5, j6, j7, j8⟩ hDd
      gi_wp2
      refine wpIn_wide.2 ?_
      go_quiet (fail)
      gi_wp2
      rw [(Rt.bo_all L n (n - 1) (Rt.bg_zero n1)).1] at j5
      obtain ⟨o5, rfl, hy⟩ := j5
      have hdr : Below W5.heap.size W5 (W5.drewN nq) := below_drewN (Below.refl _ _) nq
      have hDd' : (W5.drewN nq).heap[D]? = some (.deferred (some [])) := (hdr.block D (Array.getElem?_eq_some_iff.1 hDd).1).trans hDd
      have hst : St w.heap.size (W5.drewN nq) ((W5.drewN nq).putObj D (.deferred none)) := St.put hDd' rfl (by have := HZ2.out; have := HZ3.out; omega)
      refine ⟨by simp, .inl ⟨D, _, rfl, run_takeDeferred hDd', ?_⟩⟩
      refine ⟨.tuple #[v, .int .i64 (Rt.costN L (Rt.bo L n (n - 1) [0])), .bool true], by simp [results, Try.results10, go_sem], v, ?_, (j7.trans (hdr.mono j7.size)).trans hst.b, ?_⟩
      · rw [e2, hg]; rfl
      · have := e3.len
        rw [e1, cst_len, show (Rt.bo L n (n - 1) [0]).length = n by omega]
        exact AV.new (owns_low (own_st (own_below o5 hdr) hst) (by omega))
theorem bt_v {a : Option Addr} {n c : Nat} {L : List (Int × Int)} {w : World} (hl : L.length = n) (hn : n ≤ 1048576) (ha : FRow w a L) :
    Calls Try.prog 10 #[.slice a n c] w fun e w' => ∃ v, e = .returned (.tuple #[v, .int .i64 (Rt.btI L), .bool (Rt.stopsB L)]) ∧ Below w.heap.size w w' ∧ AV w' w.heap.size w'.heap.size v (Rt.btL L).length (Rt.btL L) := bt_w hl hn ha
theorem sbt_v {a : Option Addr} {n c : Nat} {L : List (Int × Int)} {w : World} (hl : L.length = n) (hn : n ≤ 1048576) (ha : FRow w a L) :
    Calls Try.prog 11 #[.slice a n c] w fun e w' => ∃ v, e = .returned (.tuple #[v, .int .i64 (Rt.btI L), .bool (Rt.stopsB L)]) ∧ Below w.heap.size w w' ∧ AV w' w.heap.size w'.heap.size v (Rt.btL L).length (Rt.btL L) := sbt_w hl hn ha
end Go.Proofs.Ytnfcedccjfnceaa
