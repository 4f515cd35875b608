/-
  The tree's round: what l11Walk and TreeTour of the model and TreeTour of the program answer.
-/
import Derived.Test.YtkiadodoehcbmaaRn11
namespace Go.Proofs.Ytkiadodoehcbmaa
open Go.RowKit

def WkP (w : World) (base : Nat) (vo : Value) (K : List Nat) (e : Ending) (w' : World) : Prop := ∃ v, e = .returned v ∧ w'.ownsRow base 3 1 v K.length (ints (cst K)) ∧ w.grownBy w' vo.ownBlock ∧ From w vo v
set_option maxHeartbeats 4000000 in
theorem swk_any {n : Nat} {up : List Int} {r : Nat → Nat} (hR : Hid (Rt.Rnk n up r)) (hn : n ≤ 7) : ∀ (f : Nat) {b o c k base : Nat} {vo : Value} {os : List Nat} {w : World}, n ≤ f + r k → k < n → Hid (ARow w (some ⟨b, o, none⟩) up) → b < w.heap.size → vo.ownBlock ≠ some b → base ≤ w.heap.size → os.length + 8 * f ≤ 1000 → Hid (w.ownsRow base 3 1 vo os.length (ints (cst os))) →
    Calls Try.prog 47 #[.slice (some ⟨b, o, none⟩) n c, .int .i64 (k : Int), vo] w (WkP w base vo (os ++ Rt.wk up f k))
  | 0, b, o, c, k, base, vo, os, w, hf, hk, ha, hbl, hne, hbase, ho, hown => by
    have := hR.out.bd k hk
    omega
  | f + 1, b, o, c, k, base, vo, os, w, hf, hk, ha, hbl, hne, hbase, ho, hown => by
    have hul := hR.out.len
    have HUL := hide hul
    have hTL : Hid (∀ i, i ≤ n → (Rt.wkTo up f k i).length ≤ n) := hide fun i hi => by
      have h1 := (Rt.wk_len hR.out (f + 1) k hk).2
      rw [← Rt.wkTo_end up f k n hul] at h1
      have h2 : ∀ d, (Rt.wkTo up f k i).length ≤ (Rt.wkTo up f k (i + d)).length := fun d => by
        induction d with
        | zero => exact Nat.le_refl _
        | succ d ih =>
          refine Nat.le_trans ih ?_
          rw [show i + (d + 1) = (i + d) + 1 by omega, Rt.wkTo_succ]
          split
          · rw [List.length_append]; omega
          · exact Nat.le_refl _
      have := h2 (n - i)
      rw [show i + (n - i) = n by omega] at this
      omega
    have HIH := hide fun (i : Nat) (W : World) (v : Value) (K : List Nat) (h1 : up.getD i 0 = (k : Int)) (h2 : i < n) (h3 : Hid (ARow W (some ⟨b, o, none⟩) up)) (h4 : b < W.heap.size) (h5 : v.ownBlock ≠ some b) (h6 : base ≤ W.heap.size) (h7 : K.length + 8 * f ≤ 1000) (h8 : Hid (W.ownsRow base 3 1 v K.length (ints (cst K)))) => swk_any hR hn f (b := b) (o := o) (c := c) (k := i) (base := base) (vo := v) (os := K) (w := W) (by have := (hR.out.up1 i h2 k h1).2; omega) h2 h3 h4 h5 h6 h7 h8
    obtain ⟨g, cap, w0, hr0, own0, hg0, hat⟩ := push_at (x := (k : Int)) hown.out (by omega) hbase
    have HO0 : Hid (w0.ownsRow base 3 1 (.slice (some ⟨g, 0, none⟩) (os.length + 1) cap) (os ++ Rt.wkTo up f k 0).length (ints (cst (os ++ Rt.wkTo up f k 0)))) := hide (by
      rw [cst_snoc] at own0
      have e : Rt.wkTo up f k 0 = [k] := by simp [Rt.wkTo]
      rw [e, List.length_append]
      exact own0)
    have HG0 := hide hg0
    have HF0 : Hid (From w vo (.slice (some ⟨g, 0, none⟩) (os.length + 1) cap)) := hide fun b' e => by
      have : g = b' := by simpa [Value.ownBlock] using e
      subst this
      exact hat
    have HNE := hide hne
    obtain ⟨av, cv, rfl⟩ := own_form hown.out
    clear own0 hg0 hat hne
    go_enter Try.func47, Try.ntmps47
    go_wp2_with (first | (at_builtin; refine Lib.wpList_append_run _ rfl _ _ _ _ rfl _ _ rfl rfl _ _ (hr0 _) ?_))
    clear hr0
    go_loopw [2, 7, 8, 15] (fun v _ _ s wr => ∃ (i : Nat), s = .int .i64 i ∧ i ≤ n ∧ Hid (wr.ownsRow base 3 1 v (os ++ Rt.wkTo up f k i).length (ints (cst (os ++ Rt.wkTo up f k i)))) ∧ Hid (w.grownBy wr (Value.slice av os.length cv).ownBlock) ∧ Hid (From w (.slice av os.length cv) v)) (fun _ _ _ s _ => n - (intOf s).toNat)
    case atStart => exact ⟨0, rfl, Nat.zero_le _, HO0, HG0, HF0⟩
    case round =>
      clear HO0 HG0 HF0
      obtain ⟨i, rfl, hi, HO, HG, HF⟩ := hrel
      by_cases hlt : i < n
      · have hup := arow_grown ha.out HG.out HNE.out
        obtain ⟨b', off, ea, r0⟩ := hup.at (i := i) (by rw [HUL.out]; exact hlt)
        cases ea
        have HUP := hide hup
        have i0 : (0 : Int) ≤ (i : Int) := by omega
        have i1 : (i : Int) < (n : Int) := by omega
        have HS := hide (Rt.wkTo_succ up f k i)
        by_cases he : up.getD i 0 = (k : Int)
        · have HS2 : Hid (os ++ Rt.wkTo up f k (i + 1) = (os ++ Rt.wkTo up f k i) ++ Rt.wk up f i) := hide (by rw [HS.out, if_pos he, List.append_assoc])
          have hbv : u2.ownBlock ≠ some b := fun e => by
            rcases HF.out b e with h | h
            · exact HNE.out h
            · omega
          have HC := hide (HIH.out i wr u2 _ he hlt HUP (Nat.lt_of_lt_of_le hbl HG.out.size) hbv (Nat.le_trans hbase HG.out.size) (by rw [List.length_append]; have := hTL.out i hi; omega) HO)
          rw [he] at r0
          clear he HS hbv
          generalize (os ++ Rt.wkTo up f k i).length = N at HO HC
          obtain ⟨av2, cv2, hu2⟩ := own_form HO.out
          subst hu2
          go_wp2_with fail
          refine HC.out.mono ?_
          rintro e w2 ⟨v2, rfl, own2, hg2, hf2⟩
          have HO2 : Hid (w2.ownsRow base 3 1 v2 (os ++ Rt.wkTo up f k (i + 1)).length (ints (cst (os ++ Rt.wkTo up f k (i + 1))))) := hide (by rw [HS2.out]; exact own2)
          have HG2 := hide (grow_trans HG.out hg2 HF.out)
          have HF2 := hide (HF.out.trans hf2 HG.out.size)
          clear own2 hg2 hf2 HO HG HF HS2 HC hup HUP
          go_wp2_with fail
          go_roundw
          case rel => exact ⟨i + 1, by go_num, by omega, HO2, HG2, HF2⟩
          case measure => simp only [intOf]; omega
        · have HS2 : Hid (Rt.wkTo up f k (i + 1) = Rt.wkTo up f k i) := hide (by rw [HS.out, if_neg he])
          have HO2 : Hid (wr.ownsRow base 3 1 u2 (os ++ Rt.wkTo up f k (i + 1)).length (ints (cst (os ++ Rt.wkTo up f k (i + 1))))) := hide (by rw [HS2.out]; exact HO.out)
          have hb' : (up.getD i 0 == (k : Int)) = false := by simpa using he
          generalize up.getD i 0 = z at *
          clear HS HS2 HO hup HUP
          go_wp2_with fail
          go_roundw
          case rel => exact ⟨i + 1, by go_num, by omega, HO2, HG, HF⟩
          case measure => simp only [intOf]; omega
      · have hie : i = n := by omega
        subst hie
        have HO2 : Hid (wr.ownsRow base 3 1 u2 (os ++ Rt.wk up (f + 1) k).length (ints (cst (os ++ Rt.wk up (f + 1) k)))) := hide (by rw [← Rt.wkTo_end up f k i HUL.out]; exact HO.out)
        go_wp2_with fail
        go_ret
        exact ⟨u2, rfl, HO2.out, HG.out, HF.out⟩
theorem tt_is {L : List (Int × Int)} {n : Nat} {I : List Nat} {up : List Int} {s : Int} (hl : L.length = n) (hg : Rt.stopsB L = true) (ht : Rt.tree L (n - 1) = (I, up, s)) : Rt.ttL L = cst (Rt.wk up n 0) ∧ Rt.ttI L = Rt.tour L (cst (Rt.wk up n 0)) ∧ 1 ≤ (Rt.wk up n 0).length ∧ (Rt.wk up n 0).length ≤ n ∧ Rt.InB L (cst (Rt.wk up n 0)) ∧ Rt.Rnk n up I.idxOf := by
  have h1 := (Rt.stops_len hg).1
  have hr := Rt.tree_rnk hl (by omega) ht
  have hwl := Rt.wk_len hr n 0 (by omega)
  have e1 : Rt.ttL L = cst (Rt.wk up n 0) := by
    unfold Rt.ttL
    rw [if_pos hg, hl, ht]
    rfl
  refine ⟨e1, ?_, hwl.1, hwl.2, fun i hi => ?_, hr⟩
  · unfold Rt.ttI
    rw [if_pos hg, e1]
  · rw [cst_len] at hi
    refine ⟨(Rt.wk up n 0).getD i 0, ?_, ?_⟩
    · simp [cst, hi]
    · rw [hl]
      refine Rt.wk_lt hr.len n 0 (by omega) _ ?_
      rw [List.getD_eq_getElem?_getD, List.getElem?_eq_getElem hi]
      exact List.getElem_mem hi
theorem tt_no {L : List (Int × Int)} (h : Rt.stopsB L = false) : Rt.ttL L = [] ∧ Rt.ttI L = 0 := by
  unfold Rt.ttI Rt.ttL; rw [h]; exact ⟨rfl, rfl⟩
theorem tt_le (L : List (Int × Int)) : (Rt.ttL L).length ≤ 1048576 := by
  cases h : Rt.stopsB L
  · rw [(tt_no h).1]; simp
  · obtain ⟨e1, _, _, h2, _⟩ := tt_is (L := L) (I := (Rt.tree L (L.length - 1)).1) (up := (Rt.tree L (L.length - 1)).2.1) (s := (Rt.tree L (L.length - 1)).2.2) rfl h rfl
    rw [e1, cst_len]
    have := (Rt.stops_len h).2
    omega
/-- What TreeTour answers. -/
def TT (w w' : World) (L : List (Int × Int)) (e : Ending) : Prop := ∃ v, e = .returned (.tuple #[v, .int .i64 (Rt.ttI L), .bool (Rt.stopsB L)]) ∧ Below w.heap.size w w' ∧ AV w' w.heap.size w'.heap.size v (Rt.ttL L).length (Rt.ttL L)
set_option maxHeartbeats 2000000 in
theorem tt_w {a : Option Addr} {n c : Nat} {L : List (Int × Int)} {w : World} (hl : L.length = n) (ha : FRow w a L) :
    Calls Try.prog 29 #[.slice a n c] w fun e w' => TT w w' L e := by
  have HT := hide (to_v (c := c) hl ha)
  cases hg : Rt.stopsB L
  · obtain ⟨e1, e2⟩ := tt_no hg
    have HE : Hid (∀ w' e, Below w.heap.size w w' → e = .returned (.tuple #[.slice none 0 0, .int .i64 0, .bool false]) → TT w w' L e) := hide fun w' e hb he => ⟨.slice none 0 0, by rw [he, e2, hg], hb, by rw [e1]; exact av_none _ _⟩
    have HG := hide hg
    clear hg e1 e2 ha hl
    go_enter Try.func29, Try.ntmps29
    go_wp2_with fail
    refine HT.out.mono ?_
    rintro e w1 ⟨v1, rfl, hb1, hv1⟩
    rw [HG.out]
    have B1 := hide hb1
    clear hb1 hv1
    generalize Rt.toI L = Z at *
    go_wp2_with fail
    exact bodyPost_ret (v := .tuple #[.slice none 0 0, .int .i64 0, .bool false]) (by simp [results, Try.results29, go_sem]) rfl (HE.out _ _ B1.out rfl)
  · obtain ⟨s1, s2⟩ := Rt.stops_len hg
    obtain ⟨t1, t2, t3⟩ := toL_len hl hg
    have n7 : n ≤ 7 := by omega
    have n1 : 1 ≤ n := by omega
    obtain ⟨e1, e2, e3, e4, e5, e6⟩ := tt_is (I := (Rt.tree L (n - 1)).1) (up := (Rt.tree L (n - 1)).2.1) (s := (Rt.tree L (n - 1)).2.2) hl hg rfl
    rw [← t2] at e1 e2 e3 e4 e5 e6
    have HG := hide hg
    have HS := hide (Rt.stops_all hg)
    have HL := hide hl
    have HFR := hide fun (W : World) (h : Below w.heap.size w W) => ha.below h
    have HE : Hid (∀ w' (lo : Nat) (v : Value) e, w.heap.size ≤ lo → Below w.heap.size w w' → w'.ownsRow lo 3 1 v (Rt.wk (Rt.toL L) n 0).length (ints (cst (Rt.wk (Rt.toL L) n 0))) → e = .returned (.tuple #[v, .int .i64 (Rt.tour L (cst (Rt.wk (Rt.toL L) n 0))), .bool true]) → TT w w' L e) := hide fun w' lo v e hlo hb ho he => by
      refine ⟨v, by rw [he, e2, hg], hb, ?_⟩
      rw [e1, cst_len]
      exact AV.new (owns_low ho hlo)
    have HR := hide e6
    have HIN := hide e5
    have HT1 := hide t1
    generalize Rt.toL L = up at *
    generalize Rt.toI L = Z at *
    clear hg e1 e2 ha hl t2 t3 t1 e5 e6
    go_enter Try.func29, Try.ntmps29
    go_wp2_with fail
    refine HT.out.mono ?_
    rintro e w1 ⟨v1, rfl, hb1, hv1⟩
    rw [HG.out]
    rw [HT1.out] at hv1
    obtain ⟨a1, c1, rfl, r1⟩ := own_row HT1.out hv1.1
    have B1 := hide hb1
    have HSF := hide (sf_any (c := c1) (k := 0) (w := w1) HR (by omega) n (by omega) (by omega) (hide r1))
    generalize hK : Rt.wk up n 0 = K at *
    clear hb1 hv1 r1 hK
    go_wp2_with fail
    refine HSF.out.mono ?_
    rintro e w2 ⟨v2, rfl, hb2, own2⟩
    have HCL : Hid ((cst K).length = K.length) := hide (cst_len K)
    obtain ⟨a2, c2, rfl, r2⟩ := own_row (cst_len K) own2
    have hB2 := bw_below B1.out hb2
    have B2 := hide hB2
    have HO2 := hide own2
    have z1 := B1.out.size
    have HRC := hide (rc_any (w := w2) (c := c) (d := c2) HL HCL e3 (by omega) HS HIN (hide (HFR.out _ hB2)) (hide r2))
    generalize K.length = N at *
    clear hb2 own2 r2 hB2 HSF
    go_wp2_with fail
    refine HRC.out.mono ?_
    rintro e w3 ⟨rfl, hb3⟩
    have B3 := hide (bw_below B2.out hb3)
    have HO3 := hide (own_below HO2.out hb3)
    clear hb3 HO2 B2 HRC
    go_wp2_with fail
    exact bodyPost_ret (v := .tuple #[.slice a2 N c2, .int .i64 (Rt.tour L (cst K)), .bool true]) (by simp [results, Try.results29, go_sem]) rfl (HE.out _ _ _ _ z1 B3.out HO3.out rfl)
set_option maxHeartbeats 2000000 in
theorem stt_w {a : Option Addr} {n c : Nat} {L : List (Int × Int)} {w : World} (hl : L.length = n) (hn : n ≤ 1048576) (ha : FRow w a L) :
    Calls Try.prog 28 #[.slice a n c] w fun e w' => TT w w' L e := by
  have HA := hide ha
  have HL := hide hl
  cases hg : Rt.stopsB L
  · obtain ⟨e1, e2⟩ := tt_no hg
    have HE : Hid (∀ w' e, Below w.heap.size w w' → e = .returned (.tuple #[.slice none 0 0, .int .i64 0, .bool false]) → TT w w' L e) := hide fun w' e hb he => ⟨.slice none 0 0, by rw [he, e2, hg], hb, by rw [e1]; exact av_none _ _⟩
    have HG := hide hg
    clear hg e1 e2 ha hl
    go_enter Try.func28, Try.ntmps28
    go_wp2_with fail
    refine (sgst_eq HL hn HA HG).mono ?_
    rintro e w1 ⟨rfl, hb1⟩
    go_wp2_with fail
    exact bodyPost_ret (v := .tuple #[.slice none 0 0, .int .i64 0, .bool false]) (by simp [results, Try.results28, go_sem]) rfl (HE.out _ _ hb1 rfl)
  · obtain ⟨s1, s2⟩ := Rt.stops_len hg
    have HG := hide hg
    have HS := hide (Rt.stops_all hg)
    have HFR := hide fun (W : World) (h : Below w.heap.size w W) => ha.below h
    have HST := hide fun (W : World) (h : Below w.heap.size w W) => str_any (w := W) (c := c) HL (by omega) (by omega) HS (hide (ha.below h))
    have HTI := hide fun (I : List Nat) (up : List Int) (s : Int) (ht : Rt.tree L (n - 1) = (I, up, s)) => tt_is hl hg ht
    have n7 : n ≤ 7 := by omega
    have n1 : 1 ≤ n := by omega
    clear ha hl hg s1 s2
    go_enter Try.func28, Try.ntmps28
    go_wp2_with fail
    refine (sgst_eq HL hn HA HG).mono ?_
    rintro e w1 ⟨rfl, hb1⟩
    have B1 := hide hb1
    have z1 := hb1.size
    clear hb1
    go_wp2_with fail
    refine (HST.out _ B1.out).mono ?_
    rintro e w2 ⟨I, up, s, ht, rfl, ho, hb2⟩
    obtain ⟨e1, e2, e3, e4, e5, e6⟩ := HTI.out I up s ht
    have hul : up.length = n := e6.len
    have r2 := arow_owns hul.symm ho
    have hB2 := bw_below B1.out hb2
    have B2 := hide hB2
    have hz2 : w1.heap.size < w2.heap.size := (ho.lt w1.heap.size rfl).2
    have HWK := hide (swk_any (c := n) (k := 0) (base := w2.heap.size) (vo := .slice none 0 0) (os := []) (w := w2) (hide e6) n7 n (by omega) (by omega) (hide r2) hz2 (by simp [Value.ownBlock]) (Nat.le_refl _) (by simp; omega) (hide (World.ownsRow_nil _ _ _ _)))
    rw [List.nil_append] at HWK
    have HE : Hid (∀ w' (lo : Nat) (v : Value) e, w.heap.size ≤ lo → Below w.heap.size w w' → w'.ownsRow lo 3 1 v (Rt.wk up n 0).length (ints (cst (Rt.wk up n 0))) → e = .returned (.tuple #[v, .int .i64 (Rt.tour L (cst (Rt.wk up n 0))), .bool true]) → TT w w' L e) := hide fun w' lo v e hlo hb ho' he => by
      refine ⟨v, by rw [he, e2, HG.out], hb, ?_⟩
      rw [e1, cst_len]
      exact AV.new (owns_low ho' hlo)
    have HIN := hide e5
    have z2 : w.heap.size ≤ w2.heap.size := by omega
    generalize hK : Rt.wk up n 0 = K at *
    clear ho hb2 ht e1 e2 e5 e6 r2 hB2 hK hul
    go_wp2_with fail
    refine HWK.out.mono ?_
    rintro e w3 ⟨v3, rfl, own3, hg3, hf3⟩
    have HCL : Hid ((cst K).length = K.length) := hide (cst_len K)
    obtain ⟨a3, c3, rfl, r3⟩ := own_row (cst_len K) own3
    have hb3 : Below w2.heap.size w2 w3 := grown_under10 hg3 (fun b e => by simp [Value.ownBlock] at e) (Nat.le_refl _)
    have hB3 := bw_below B2.out hb3
    have B3 := hide hB3
    have HO3 := hide own3
    have HRC := hide (src_any (w := w3) (c := c) (d := c3) HL HCL e3 (by omega) HS HIN (hide (HFR.out _ hB3)) (hide r3))
    generalize K.length = N at *
    clear hb3 own3 r3 hB3 hg3 hf3 HWK
    go_wp2_with fail
    refine HRC.out.mono ?_
    rintro e w4 ⟨rfl, hb4⟩
    have B4 := hide (bw_below B3.out hb4)
    have HO4 := hide (own_below HO3.out hb4)
    clear hb4 HO3 B3 HRC
    go_wp2_with fail
    exact bodyPost_ret (v := .tuple #[.slice a3 N c3, .int .i64 (Rt.tour L (cst K)), .bool true]) (by simp [results, Try.results28, go_sem]) rfl (HE.out _ _ _ _ z2 B4.out HO4.out rfl)
theorem tt_v {a : Option Addr} {n c : Nat} {L : List (Int × Int)} {w : World} (hl : L.length = n) (ha : FRow w a L) :
    Calls Try.prog 29 #[.slice a n c] w fun e w' => ∃ v, e = .returned (.tuple #[v, .int .i64 (Rt.ttI L), .bool (Rt.stopsB L)]) ∧ Below w.heap.size w w' ∧ AV w' w.heap.size w'.heap.size v (Rt.ttL L).length (Rt.ttL L) := tt_w hl ha
theorem stt_v {a : Option Addr} {n c : Nat} {L : List (Int × Int)} {w : World} (hl : L.length = n) (hn : n ≤ 1048576) (ha : FRow w a L) :
    Calls Try.prog 28 #[.slice a n c] w fun e w' => ∃ v, e = .returned (.tuple #[v, .int .i64 (Rt.ttI L), .bool (Rt.stopsB L)]) ∧ Below w.heap.size w w' ∧ AV w' w.heap.size w'.heap.size v (Rt.ttL L).length (Rt.ttL L) := stt_w hl hn ha
end Go.Proofs.Ytkiadodoehcbmaa
