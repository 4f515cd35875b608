/-
  Trees: what l11Near of the model answers.
-/
import Derived.Test.YtkiadodoehcbmaaRg11
import Derived.Test.YtkiadodoehcbmaaRe11
import Derived.BigQuiet
import Derived.Shelf.Abstract
namespace Go.Proofs.Ytkiadodoehcbmaa
open Go.RowKit

/-- Numbers of stops as they lie in memory. -/
def cst (I : List Nat) : List Int := I.map fun x : Nat => (x : Int)
theorem cst_len (I : List Nat) : (cst I).length = I.length := by simp [cst]
theorem cst_has (I : List Nat) (i : Nat) : (cst I).contains (i : Int) = I.contains i := by
  rw [Bool.eq_iff_iff]
  simp only [cst, List.contains_eq_mem, decide_eq_true_eq, List.mem_map]
  exact ⟨fun ⟨a, ha, e⟩ => by rw [show i = a by omega]; exact ha, fun h => ⟨i, h, rfl⟩⟩
theorem cst_snoc (I : List Nat) (k : Nat) : ints (cst I) ++ [.int .i64 (k : Int)] = ints (cst (I ++ [k])) := by simp [cst, ints]
/-- None as -1. -/
def opt (o : Option Nat) : Int := match o with | none => -1 | some x => (x : Int)
theorem stop_at {L : List (Int × Int)} {n i : Nat} (hl : L.length = n) (hi : i < n) : i < L.length := by omega
/-- A region that draws its order, over a class of worlds: one operation. -/
theorem q_callC {P : Program} {C : World → Prop} {K : Act → Prop} {a : Act} {o : Oper} {f : FuncId} {xs : Array Operand} {ts : Array TypeId} {args : Array Value} {v : Value} (ho : o.op = .call { callee := .value (.func f), args := xs, argTypes := ts }) (ha : xs.map a.eval = args) (hf : ∀ args w, (callFunc f args).run P w = .ok (.enter f args) w)
    (h : ∀ w, C w → Calls P f args w fun e w' => e = .returned v ∧ C w') (hk : K (a.put o.dst v)) : o.quiet P a C K :=
  ⟨v, fun w hw => by
    have hr : (execOp a.eval o).run P w = .ok (.enter f args) w := by
      unfold execOp
      simp [ho, resolve, ha, invoke, Deferred.ofValue, Act.eval, hf]
    unfold Oper.quietAt; rw [hr]; exact ⟨rfl, h w hw⟩, hk⟩
theorem q_spot {C : World → Prop} {K : Act → Prop} {a : Act} {o : Oper} {s : Operand} {b p : Nat} {x y : Int} (ho : o.op = .load 33 s) (hs : a.eval s = .pointer (some ⟨b, p, none⟩)) (h : ∀ V, C V → V.cell? ⟨b, p, none⟩ = some (.int .i64 x) ∧ V.cell? ⟨b, p + 1, none⟩ = some (.int .i64 y)) (hk : K (a.put o.dst (.agg #[.int .i64 x, .int .i64 y]))) : o.quiet Try.prog a C K :=
  ⟨_, fun w hw => by
    obtain ⟨h1, h2⟩ := h w hw
    have hr : (execOp a.eval o).run Try.prog w = .ok (.value (.agg #[.int .i64 x, .int .i64 y])) w := by
      unfold execOp
      simp only [ho, hs]
      simp [go_sem, h1, h2]
    unfold Oper.quietAt; rw [hr]; exact ⟨rfl, rfl⟩, hk⟩
theorem hb_has {a : Option Addr} {m d i : Nat} {I : List Nat} {w : World} {r : Bool} (hm : Hid ((cst I).length = m)) (h7 : m ≤ 1000) (ha : Hid (ARow w a (cst I))) (hr : Hid (I.contains i = r)) :
    Calls Try.prog 51 #[.slice a m d, .int .i64 (i : Int)] w fun e w' => e = .returned (.bool r) ∧ w' = w := by
  refine (has7_any (c := d) (x := (i : Int)) hm.out h7 ha.out).mono ?_
  rintro e w' ⟨rfl, hw⟩
  rw [cst_has, hr.out]
  exact ⟨rfl, hw⟩
theorem bw_below {W w1 w2 : World} (h : Below W.heap.size W w1) (hb : Below w1.heap.size w1 w2) : Below W.heap.size W w2 := h.trans (hb.mono h.size)
/-- Three stops in memory. -/
def NearC (w : World) (b p q r : Nat) (k1 k2 x1 x2 y1 y2 : Int) (V : World) : Prop := V.cell? ⟨b, p, none⟩ = some (.int .i64 k1) ∧ V.cell? ⟨b, p + 1, none⟩ = some (.int .i64 k2) ∧ V.cell? ⟨b, q, none⟩ = some (.int .i64 x1) ∧ V.cell? ⟨b, q + 1, none⟩ = some (.int .i64 x2) ∧ V.cell? ⟨b, r, none⟩ = some (.int .i64 y1) ∧ V.cell? ⟨b, r + 1, none⟩ = some (.int .i64 y2) ∧ Below w.heap.size w V
theorem NearC.below {w V V' : World} {b p q r : Nat} {k1 k2 x1 x2 y1 y2 : Int} (h : NearC w b p q r k1 k2 x1 x2 y1 y2 V) (hb : Below V.heap.size V V') : NearC w b p q r k1 k2 x1 x2 y1 y2 V' := by
  obtain ⟨h1, h2, h3, h4, h5, h6, h7⟩ := h
  have hl := World.block_lt_of_cell? V _ h1
  exact ⟨(hb.cell (p := ⟨b, p, none⟩) hl).trans h1, (hb.cell (p := ⟨b, p + 1, none⟩) hl).trans h2, (hb.cell (p := ⟨b, q, none⟩) hl).trans h3, (hb.cell (p := ⟨b, q + 1, none⟩) hl).trans h4, (hb.cell (p := ⟨b, r, none⟩) hl).trans h5, (hb.cell (p := ⟨b, r + 1, none⟩) hl).trans h6, h7.trans (hb.mono h7.size)⟩
set_option maxHeartbeats 8000000 in
theorem sn_any {a a' : Option Addr} {n m c d k : Nat} {L : List (Int × Int)} {I : List Nat} {w : World} (hl : Hid (L.length = n)) (hn : n ≤ 7) (hm : Hid ((cst I).length = m)) (hm7 : m ≤ 7) (hs : Hid (Rt.allS L = true)) (hk : k < n) (ha : Hid (FRow w a L)) (hb : Hid (ARow w a' (cst I))) :
    Calls Try.prog 54 #[.slice a n c, .slice a' m d, .int .i64 (k : Int)] w fun e w' => e = .returned (.int .i64 (opt (Rt.nearTo L I k n))) ∧ Below w.heap.size w w' := by
  go_enter Try.func54, Try.ntmps54
  go_wp2_with fail
  go_loopw [7, 8, 11] (fun s7 _ s wr => ∃ (i : Nat) (o : Option Nat), s7 = .int .i64 (opt o) ∧ s = .int .i64 i ∧ i ≤ n ∧ Hid (Rt.nearTo L I k i = o) ∧ Below w.heap.size w wr) (fun _ _ s _ => n - (intOf s).toNat)
  case atStart => exact ⟨0, none, rfl, rfl, Nat.zero_le _, hide rfl, Below.refl _ _⟩
  case round =>
    obtain ⟨i, o, rfl, rfl, hi, HO, hB⟩ := hrel
    by_cases hlt : i < n
    · have i0 : (0 : Int) ≤ (i : Int) := by omega
      have i1 : (i : Int) < (n : Int) := by omega
      have HNX := hide (Rt.near_succ L I k i)
      cases hc : I.contains i
      · have HN2 : Hid (Rt.nearTo L I k (i + 1) = o) := hide (by rw [HNX.out, hc]; exact HO.out)
        have HC := hide hc
        have HQ := hide fun (W : World) (h : Below w.heap.size w W) => hb_has (w := W) (d := d) (i := i) hm (by omega) (hide (hb.out.below h)) HC
        clear HNX hc HO
        go_upto_region 5 with fail
        go_quiet ((go_at_call 51; exact Calls.quiet_of_same (HQ.out _ (below_drewN hB _))))
        go_wp2_with fail
        go_roundw
        case rel => exact ⟨i + 1, o, rfl, by go_num, by omega, HN2, below_drewN hB _⟩
        case measure => simp only [intOf]; omega
      · have HC := hide hc
        have HQ := hide fun (W : World) (h : Below w.heap.size w W) => hb_has (w := W) (d := d) (i := i) hm (by omega) (hide (hb.out.below h)) HC
        cases o with
        | none =>
          have HN2 : Hid (Rt.nearTo L I k (i + 1) = some i) := hide (by rw [HNX.out, hc, HO.out]; rfl)
          have hopt : opt none = -1 := rfl
          rw [hopt]
          clear HNX hc HO
          go_upto_region 5 with fail
          go_quiet ((go_at_call 51; exact Calls.quiet_of_same (HQ.out _ (below_drewN hB _))))
          go_wp2_with fail
          go_roundw
          case rel => exact ⟨i + 1, some i, rfl, by go_num, by omega, HN2, below_drewN hB _⟩
          case measure => simp only [intOf]; omega
        | some j =>
          obtain ⟨hj, _⟩ := Rt.near_to HO.out
          have hjn : j < n := by omega
          have HN2 : Hid (Rt.nearTo L I k (i + 1) = if Rt.wy L k i < Rt.wy L k j then some i else some j) := hide (by rw [HNX.out, hc, HO.out]; rfl)
          obtain ⟨b, o, ea, c1, c2, c3, c4⟩ := two_stops (ha.out.below hB) (i := k) (j := i) (stop_at hl.out hk) (stop_at hl.out hlt)
          obtain ⟨b', o', ea', _, _, c5, c6⟩ := two_stops (ha.out.below hB) (i := k) (j := j) (stop_at hl.out hk) (stop_at hl.out hjn)
          subst ea
          cases ea'
          have H1 := hide fun (V : World) => lw_any (w := V) (Rt.allS_at hs.out (stop_at hl.out hk)) (Rt.allS_at hs.out (stop_at hl.out hlt))
          have H2 := hide fun (V : World) => lw_any (w := V) (Rt.allS_at hs.out (stop_at hl.out hk)) (Rt.allS_at hs.out (stop_at hl.out hjn))
          unfold Rt.wy at HN2
          generalize Rt.way (L.getD k (0, 0)) (L.getD i (0, 0)) = Y1 at *
          generalize Rt.way (L.getD k (0, 0)) (L.getD j (0, 0)) = Y2 at *
          generalize (L.getD k (0, 0)).1 = k1 at *
          generalize (L.getD k (0, 0)).2 = k2 at *
          generalize (L.getD i (0, 0)).1 = x1 at *
          generalize (L.getD i (0, 0)).2 = x2 at *
          generalize (L.getD j (0, 0)).1 = y1 at *
          generalize (L.getD j (0, 0)).2 = y2 at *
          have HCC : Hid (NearC w b (o + k * 2) (o + i * 2) (o + j * 2) k1 k2 x1 x2 y1 y2 wr.drew) := hide ⟨c1, c2, c3, c4, c5, c6, hB.drew⟩
          have K1 : Hid (∀ V, NearC w b (o + k * 2) (o + i * 2) (o + j * 2) k1 k2 x1 x2 y1 y2 V → Calls Try.prog 35 #[.agg #[.int .i64 k1, .int .i64 k2], .agg #[.int .i64 x1, .int .i64 x2]] V fun e w' => e = .returned (.int .i64 Y1) ∧ NearC w b (o + k * 2) (o + i * 2) (o + j * 2) k1 k2 x1 x2 y1 y2 w') := hide fun V hV => (H1.out V).mono fun e w' h => ⟨h.1, hV.below h.2⟩
          have K2 : Hid (∀ V, NearC w b (o + k * 2) (o + i * 2) (o + j * 2) k1 k2 x1 x2 y1 y2 V → Calls Try.prog 35 #[.agg #[.int .i64 k1, .int .i64 k2], .agg #[.int .i64 y1, .int .i64 y2]] V fun e w' => e = .returned (.int .i64 Y2) ∧ NearC w b (o + k * 2) (o + i * 2) (o + j * 2) k1 k2 x1 x2 y1 y2 w') := hide fun V hV => (H2.out V).mono fun e w' h => ⟨h.1, hV.below h.2⟩
          have K0 : Hid (∀ V, NearC w b (o + k * 2) (o + i * 2) (o + j * 2) k1 k2 x1 x2 y1 y2 V → Calls Try.prog 51 #[.slice a' m d, .int .i64 (i : Int)] V fun e w' => e = .returned (.bool true) ∧ NearC w b (o + k * 2) (o + i * 2) (o + j * 2) k1 k2 x1 x2 y1 y2 w') := hide fun V hV => (HQ.out V hV.2.2.2.2.2.2).mono fun e w' h => ⟨h.1, h.2 ▸ hV⟩
          have EH : Hid (∀ args w, (callFunc 51 args).run Try.prog w = .ok (.enter 51 args) w) := hide (enters_of Try.func51 (by kernel_rfl) rfl)
          have EW : Hid (∀ args w, (callFunc 35 args).run Try.prog w = .ok (.enter 35 args) w) := hide (enters_of Try.func35 (by kernel_rfl) rfl)
          have k0' : (0 : Int) ≤ (k : Int) := by omega
          have k1' : (k : Int) < (n : Int) := by omega
          have j0 : (0 : Int) ≤ (j : Int) := by omega
          have j1 : (j : Int) < (n : Int) := by omega
          have jn : ¬ (j : Int) < 0 := by omega
          have hopt : opt (some j) = (j : Int) := rfl
          rw [hopt]
          clear HNX hc HO H1 H2 c1 c2 c3 c4 c5 c6 HC HQ
          go_upto_region 5 with fail
          refine wp_region_quiet (C := NearC w b (o + k * 2) (o + i * 2) (o + j * 2) k1 k2 x1 x2 y1 y2) (by kernel_rfl) (by kernel_rfl) HCC.out ?_
          rw [List.toList_toArray]
          repeat (first
            | go_big_quiet_skip
            | (go_big_quiet_want; first
              | (go_big_quiet_op; go_big_quiet_on)
              | (go_big_quiet_op; refine ⟨_, fun _ _ => rfl, ?_⟩; go_big_quiet_on)
              | (refine q_callC (args := #[.slice a' m d, .int .i64 (i : Int)]) rfl ?_ EH.out K0.out ?_; simp [go_sem]; simp [go_sem]; go_big_quiet_on)
              | (refine q_callC (args := #[.agg #[.int .i64 k1, .int .i64 k2], .agg #[.int .i64 x1, .int .i64 x2]]) rfl ?_ EW.out K1.out ?_; simp [go_sem]; simp [go_sem]; go_big_quiet_on)
              | (refine q_callC (args := #[.agg #[.int .i64 k1, .int .i64 k2], .agg #[.int .i64 y1, .int .i64 y2]]) rfl ?_ EW.out K2.out ?_; simp [go_sem]; simp [go_sem]; go_big_quiet_on)
              | (refine q_spot (b := b) (p := o + k * 2) rfl ?_ (fun V hV => ⟨hV.1, hV.2.1⟩) ?_; simp [go_sem]; simp [go_sem]; go_big_quiet_on)
              | (refine q_spot (b := b) (p := o + i * 2) rfl ?_ (fun V hV => ⟨hV.2.2.1, hV.2.2.2.1⟩) ?_; simp [go_sem]; simp [go_sem]; go_big_quiet_on)
              | (refine q_spot (b := b) (p := o + j * 2) rfl ?_ (fun V hV => ⟨hV.2.2.2.2.1, hV.2.2.2.2.2.1⟩) ?_; simp [go_sem]; simp [go_sem]; go_big_quiet_on)))
          refine wpQuiet_nil ?_
          intro w2 hC2
          have hB2 := hC2.2.2.2.2.2.2
          clear hC2 K0 K1 K2 HCC
          by_cases hlt2 : Y1 < Y2
          · have HN3 : Hid (Rt.nearTo L I k (i + 1) = some i) := hide (by rw [HN2.out, if_pos hlt2])
            clear HN2
            go_wp2_with fail
            go_roundw
            case rel => exact ⟨i + 1, some i, rfl, by go_num, by omega, HN3, hB2⟩
            case measure => simp only [intOf]; omega
          · have HN3 : Hid (Rt.nearTo L I k (i + 1) = some j) := hide (by rw [HN2.out, if_neg hlt2])
            clear HN2
            go_wp2_with fail
            go_roundw
            case rel => exact ⟨i + 1, some j, rfl, by go_num, by omega, HN3, hB2⟩
            case measure => simp only [intOf]; omega
    · have hke : i = n := by omega
      subst hke
      have HE : Hid (opt o = opt (Rt.nearTo L I k i)) := hide (by rw [HO.out])
      go_wp2_with fail
      go_ret
      exact ⟨ret_int HE.out, hB⟩
end Go.Proofs.Ytkiadodoehcbmaa
