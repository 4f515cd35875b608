/-
  What PairCost, OrderCost, IsOrder and SwapGain answer, the program's and the model's.
-/
import Derived.Test.YtljccbnkibfimaaHc
namespace Go.Proofs.Ytljccbnkibfimaa
open Go.RowKit

def pcI (us ws : List Int) : Int := if Od.waysB us ws then Od.pair us ws else 0
set_option maxRecDepth 100000 in
set_option maxHeartbeats 1000000 in
theorem pc_w {a b : Option Addr} {n m c d : Nat} {us ws : List Int} {w : World} (hu : us.length = n) (hw : ws.length = m) (ha : ARow w a us) (hb : ARow w b ws) :
    Calls Try.prog 35 #[.slice a n c, .slice b m d] w fun e w' => e = .returned (.tuple #[.int .i64 (pcI us ws), .bool (Od.waysB us ws)]) ∧ Below w.heap.size w w' := by
  unfold pcI
  have HA := hide ha
  have HB := hide hb
  have HU := hide hu
  have HW := hide hw
  clear ha hb hu hw
  cases hg : Od.waysB us ws
  · have HG := hide hg
    clear hg
    go_enter Try.func35, Try.ntmps35
    go_wp2_with fail
    refine (uw_eq HU HW HA HB HG).mono ?_
    rintro e w1 ⟨rfl, rfl⟩
    go_wp2_with fail
    go_ret2
    exact ⟨rfl, Below.refl _ _⟩
  · have HG := hide hg
    obtain ⟨g1, g2, g3, g4⟩ := Od.waysB_yes hg
    have HC := hide (sp_any (c := c) (d := d) (m := m) HU.out HW.out (by have := HU.out; have := HW.out; omega) (by have := HU.out; omega) HA.out HB.out g3 g4)
    clear hg g1 g2 g3 g4
    go_enter Try.func35, Try.ntmps35
    go_wp2_with fail
    refine (uw_eq HU HW HA HB HG).mono ?_
    rintro e w1 ⟨rfl, rfl⟩
    go_wp2_with fail
    refine HC.out.mono ?_
    rintro e w1 ⟨rfl, hb1⟩
    go_wp2_with fail
    go_ret2
    exact ⟨rfl, hb1⟩
set_option maxRecDepth 100000 in
set_option maxHeartbeats 1000000 in
theorem spc_no {a b : Option Addr} {n m c d : Nat} {us ws : List Int} {w : World} (HU : Hid (us.length = n)) (HW : Hid (ws.length = m)) (HA : Hid (ARow w a us)) (HB : Hid (ARow w b ws)) (HG : Hid (Od.waysB us ws = false)) :
    Calls Try.prog 36 #[.slice a n c, .slice b m d] w fun e w' => e = .returned (.tuple #[.int .i64 0, .bool false]) ∧ Below w.heap.size w w' := by
  go_enter Try.func36, Try.ntmps36
  go_wp2_with fail
  refine (suw_eq HU HW HA HB HG).mono ?_
  rintro e w1 ⟨rfl, rfl⟩
  go_wp2_with fail
  go_ret2
  exact ⟨rfl, Below.refl _ _⟩
set_option maxRecDepth 100000 in
set_option maxHeartbeats 2000000 in
theorem spc_yes {a b : Option Addr} {n c d : Nat} {us ws : List Int} {w : World} (hn : n ≤ 10) (HU : Hid (us.length = n)) (HW : Hid (ws.length = n)) (HA : Hid (ARow w a us)) (HB : Hid (ARow w b ws)) (HG : Hid (Od.waysB us ws = true)) :
    Calls Try.prog 36 #[.slice a n c, .slice b n d] w fun e w' => e = .returned (.tuple #[.int .i64 (Od.pair us ws), .bool true]) ∧ Below w.heap.size w w' := by
  have HGU := hide (Od.waysB_yes HG.out).2.2.1
  have HGW := hide (Od.waysB_yes HG.out).2.2.2
  have HBD := hide (Od.pairTo_bd HGU.out HGW.out)
  go_enter Try.func36, Try.ntmps36
  go_wp2_with fail
  refine (suw_eq HU HW HA HB HG).mono ?_
  rintro e w1 ⟨rfl, hw⟩
  obtain rfl : w = w1 := hw.symm
  go_wp2_with fail
  go_loopw [6, 7, 14] (fun s6 _ s wr => ∃ (k : Nat) (t : Int), s6 = .int .i64 t ∧ s = .int .i64 k ∧ k ≤ n ∧ Hid (t = Od.pairTo us ws k) ∧ ∃ q, wr = w.drewN q) (fun _ _ s _ => n - (intOf s).toNat)
  case atStart => exact ⟨0, 0, rfl, rfl, Nat.zero_le _, hide rfl, 0, rfl⟩
  case round =>
    obtain ⟨k, t, rfl, rfl, hk, HT, q, rfl⟩ := hrel
    by_cases hlt : k < n
    · obtain ⟨ba, oa, rfl, r1⟩ := HA.out.at (i := k) (by rw [HU.out]; exact hlt)
      obtain ⟨bb, ob, rfl, r2⟩ := HB.out.at (i := k) (by rw [HW.out]; omega)
      have i0 : (0 : Int) ≤ (k : Int) := by omega
      have i1 : (k : Int) < (n : Int) := by omega
      have hs : Od.pairTo us ws (k + 1) = Od.pairTo us ws k + us.getD k 0 * ws.getD k 0 := rfl
      have hbd := HBD.out (k + 1) (by rw [HU.out]; omega) (by rw [HW.out]; omega)
      have tb := Od.term_bd (Pf.inB_yes (Pf.allB_get HGU.out (show k < us.length by rw [HU.out]; exact hlt))) (Pf.inB_yes (Pf.allB_get HGW.out (show k < ws.length by rw [HW.out]; omega)))
      rw [hs, ← HT.out] at hbd
      rw [← HT.out] at hs
      generalize us.getD k 0 = x at *
      generalize ws.getD k 0 = y at *
      have HS := hide hs
      have p0 : IntKind.i64.wrap (x * y) = x * y := by rw [IntKind.wrap_i64]; omega
      have p1 : IntKind.i64.wrap (t + x * y) = t + x * y := by rw [IntKind.wrap_i64]; omega
      clear hs hbd tb
      go_wp2_with fail
      go_region
      go_wp2_with fail
      go_roundw
      case rel => exact ⟨k + 1, t + x * y, rfl, by go_num, by omega, hide HS.out.symm, q + 1, rfl⟩
      case measure => simp only [intOf]; omega
    · have hke : k = n := by omega
      subst hke
      have HE := hide (show t = Od.pair us ws by rw [Od.pair, HU.out]; exact HT.out)
      go_wp2_with fail
      go_ret2
      exact ⟨by have := HE.out; subst this; rfl, below_drewN (Below.refl _ _) q⟩
theorem spc_w {a b : Option Addr} {n m c d : Nat} {us ws : List Int} {w : World} (hu : us.length = n) (hw : ws.length = m) (ha : ARow w a us) (hb : ARow w b ws) :
    Calls Try.prog 36 #[.slice a n c, .slice b m d] w fun e w' => e = .returned (.tuple #[.int .i64 (pcI us ws), .bool (Od.waysB us ws)]) ∧ Below w.heap.size w w' := by
  unfold pcI
  cases hg : Od.waysB us ws
  · exact spc_no (hide hu) (hide hw) (hide ha) (hide hb) (hide hg)
  · obtain ⟨g1, g2, _⟩ := Od.waysB_yes hg
    obtain rfl : n = m := by omega
    exact spc_yes (by omega) (hide hu) (hide hw) (hide ha) (hide hb) (hide hg)
def ocB (us ws os : List Int) : Bool := Od.waysB us ws && Od.ordB os us.length
def ocI (us ws os : List Int) : Int := if ocB us ws os then Od.cost us ws os else 0
theorem ocB_yes {us ws os : List Int} (h : ocB us ws os = true) : Od.waysB us ws = true ∧ Od.ordB os us.length = true := by simpa [ocB] using h
set_option maxRecDepth 100000 in
set_option maxHeartbeats 1000000 in
theorem oc_w {a b o : Option Addr} {n m l c d e' : Nat} {us ws os : List Int} {w : World} (hu : us.length = n) (hw : ws.length = m) (ho : os.length = l) (ha : ARow w a us) (hb : ARow w b ws) (hr : ARow w o os) :
    Calls Try.prog 27 #[.slice a n c, .slice b m d, .slice o l e'] w fun e w' => e = .returned (.tuple #[.int .i64 (ocI us ws os), .bool (ocB us ws os)]) ∧ Below w.heap.size w w' := by
  unfold ocI
  have HA := hide ha
  have HB := hide hb
  have HR := hide hr
  have HU := hide hu
  have HW := hide hw
  have HO := hide ho
  clear ha hb hu hw ho hr
  cases hg : Od.waysB us ws
  · have HG := hide hg
    have e : ocB us ws os = false := by simp [ocB, hg]
    rw [e]
    clear hg e
    go_enter Try.func27, Try.ntmps27
    go_wp2_with fail
    refine (uw_eq HU HW HA HB HG).mono ?_
    rintro e w1 ⟨rfl, rfl⟩
    go_wp2_with fail
    go_ret2
    exact ⟨rfl, Below.refl _ _⟩
  · obtain ⟨g1, g2, g3, g4⟩ := Od.waysB_yes hg
    obtain rfl : n = m := by have := HU.out; have := HW.out; omega
    have hn : n ≤ 10 := by have := HU.out; omega
    have e : ocB us ws os = Od.ordB os n := by simp only [ocB, hg, Bool.true_and]; rw [HU.out]
    rw [e]
    have HG := hide hg
    cases ho : Od.ordB os n
    · have HQ := hide ho
      clear hg e g1 g2 g3 g4 ho
      go_enter Try.func27, Try.ntmps27
      go_wp2_with fail
      refine (uw_eq HU HW HA HB HG).mono ?_
      rintro e w1 ⟨rfl, rfl⟩
      go_wp2_with fail
      refine (eo_eq HO hn HR HQ).mono ?_
      rintro e w1 ⟨rfl, hb1⟩
      go_wp2_with fail
      go_ret2
      exact ⟨rfl, hb1⟩
    · have HQ := hide ho
      obtain rfl : l = n := by rw [← HO.out]; exact Od.ordB_len ho
      have HC := hide fun (W : World) (hW : Below w.heap.size w W) => co7_any (w := W) (c := c) (d := d) (e' := e') HU.out HW.out hn (HA.out.below hW) (HB.out.below hW) (HR.out.below hW) g3 g4 ho
      clear hg e g1 g2 g3 g4 ho
      go_enter Try.func27, Try.ntmps27
      go_wp2_with fail
      refine (uw_eq HU HW HA HB HG).mono ?_
      rintro e w1 ⟨rfl, rfl⟩
      go_wp2_with fail
      refine (eo_eq HO hn HR HQ).mono ?_
      rintro e w2 ⟨rfl, hb1⟩
      go_wp2_with fail
      refine (HC.out _ hb1).mono ?_
      rintro e w3 ⟨rfl, hb2⟩
      go_wp2_with fail
      go_ret2
      exact ⟨rfl, hb1.trans (hb2.mono hb1.size)⟩
set_option maxRecDepth 100000 in
set_option maxHeartbeats 1000000 in
theorem soc_w {a b o : Option Addr} {n m l c d e' : Nat} {us ws os : List Int} {w : World} (hu : us.length = n) (hw : ws.length = m) (ho : os.length = l) (hc : l ≤ e') (ha : ARow w a us) (hb : ARow w b ws) (hr : ARow w o os) :
    Calls Try.prog 28 #[.slice a n c, .slice b m d, .slice o l e'] w fun e w' => e = .returned (.tuple #[.int .i64 (ocI us ws os), .bool (ocB us ws os)]) ∧ Below w.heap.size w w' := by
  unfold ocI
  have HA := hide ha
  have HB := hide hb
  have HR := hide hr
  have HU := hide hu
  have HW := hide hw
  have HO := hide ho
  clear ha hb hu hw ho hr
  cases hg : Od.waysB us ws
  · have HG := hide hg
    have e : ocB us ws os = false := by simp [ocB, hg]
    rw [e]
    clear hg e
    go_enter Try.func28, Try.ntmps28
    go_wp2_with fail
    refine (suw_eq HU HW HA HB HG).mono ?_
    rintro e w1 ⟨rfl, rfl⟩
    go_wp2_with fail
    go_ret2
    exact ⟨rfl, Below.refl _ _⟩
  · obtain ⟨g1, g2, g3, g4⟩ := Od.waysB_yes hg
    obtain rfl : n = m := by have := HU.out; have := HW.out; omega
    have hn : n ≤ 10 := by have := HU.out; omega
    have e : ocB us ws os = Od.ordB os n := by simp only [ocB, hg, Bool.true_and]; rw [HU.out]
    rw [e]
    have HG := hide hg
    cases ho : Od.ordB os n
    · have HQ := hide ho
      clear hg e g1 g2 g3 g4 ho
      go_enter Try.func28, Try.ntmps28
      go_wp2_with fail
      refine (suw_eq HU HW HA HB HG).mono ?_
      rintro e w1 ⟨rfl, rfl⟩
      go_wp2_with fail
      refine (seo_eq HO hn hc HR HQ).mono ?_
      rintro e w1 ⟨rfl, rfl⟩
      go_wp2_with fail
      go_ret2
      exact ⟨rfl, Below.refl _ _⟩
    · have HQ := hide ho
      obtain rfl : l = n := by rw [← HO.out]; exact Od.ordB_len ho
      have HC := hide (sco7_any (c := c) (d := d) (e' := e') HU.out HW.out hn HA.out HB.out HR.out g3 g4 ho)
      clear hg e g1 g2 g3 g4 ho
      go_enter Try.func28, Try.ntmps28
      go_wp2_with fail
      refine (suw_eq HU HW HA HB HG).mono ?_
      rintro e w1 ⟨rfl, rfl⟩
      go_wp2_with fail
      refine (seo_eq HO hn hc HR HQ).mono ?_
      rintro e w1 ⟨rfl, rfl⟩
      go_wp2_with fail
      refine HC.out.mono ?_
      rintro e w3 ⟨rfl, hb2⟩
      go_wp2_with fail
      go_ret2
      exact ⟨rfl, hb2⟩
def ioB (k : Int) : Bool := Pf.inB k 0 10
def ioI (xs : List Int) (k : Int) : Bool := if ioB k then Od.ordB xs k.toNat else false
set_option maxRecDepth 100000 in
set_option maxHeartbeats 1000000 in
theorem io_w {a : Option Addr} {n c : Nat} {xs : List Int} {k : Int} {w : World} (hx : xs.length = n) (ha : ARow w a xs) :
    Calls Try.prog 31 #[.slice a n c, .int .i64 k] w fun e w' => e = .returned (.tuple #[.bool (ioI xs k), .bool (ioB k)]) ∧ Below w.heap.size w w' := by
  unfold ioI
  have HA := hide ha
  have HX := hide hx
  clear ha hx
  cases hg : ioB k
  · have hg' : Pf.inB k 0 10 = false := hg
    clear hg
    go_enter Try.func31, Try.ntmps31
    go_wp2_with fail
    refine (between_eq hg').mono ?_
    rintro e w1 ⟨rfl, rfl⟩
    go_wp2_with fail
    go_ret2
    exact ⟨rfl, Below.refl _ _⟩
  · have hg' : Pf.inB k 0 10 = true := hg
    obtain ⟨m, rfl⟩ : ∃ m : Nat, k = (m : Int) := ⟨k.toNat, by have := Pf.inB_yes hg'; omega⟩
    have hm : m ≤ 10 := by have := Pf.inB_yes hg'; omega
    rw [if_pos rfl, Int.toNat_natCast]
    have HC := hide (eo_any (c := c) HX.out hm HA.out)
    clear hg
    go_enter Try.func31, Try.ntmps31
    go_wp2_with fail
    refine (between_eq hg').mono ?_
    rintro e w1 ⟨rfl, rfl⟩
    go_wp2_with fail
    refine HC.out.mono ?_
    rintro e w1 ⟨rfl, hb1⟩
    go_wp2_with fail
    go_ret2
    exact ⟨rfl, hb1⟩
end Go.Proofs.Ytljccbnkibfimaa
