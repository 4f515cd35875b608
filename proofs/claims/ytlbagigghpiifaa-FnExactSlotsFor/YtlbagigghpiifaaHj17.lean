/-
  What the model's SlotsFor answers, in one word each.
-/
import Derived.Test.YtlbagigghpiifaaHi17
namespace Go.Proofs.Ytlbagigghpiifaa
open Go.RowKit Go.Sort

set_option maxHeartbeats 1000000 in
theorem ssf_no {p b a : Option Addr} {n m r c d f : Nat} {ps cs ws : List Int} {w : World} (HR : Hid (ps.length = r)) (HM : Hid (cs.length = m)) (HN : Hid (ws.length = n)) (hn : n ≤ 1048576) (HP : Hid (ARow w p ps)) (HB : Hid (ARow w b cs)) (HA : Hid (ARow w a ws)) (HD : Hid (Hs.dayB ps cs ws = false)) :
    Calls Try.prog 8 #[.slice p r f, .slice b m d, .slice a n c] w fun e w' => e = .returned (.tuple #[.slice none 0 0, .bool false]) ∧ Below w.heap.size w w' := by
  go_enter Try.func8, Try.ntmps8
  go_wp2_with fail
  refine (sall17_eq HR HM HN hn HP HB HA HD).mono ?_
  rintro _ w1 ⟨rfl, rfl⟩
  go_wp2_with fail
  go_ret2
  exact ⟨rfl, Below.refl _ _⟩
set_option maxHeartbeats 1000000 in
theorem ssf_yes {p b a : Option Addr} {n m r c d f : Nat} {ps cs ws : List Int} {w : World} (HR : Hid (ps.length = r)) (HM : Hid (cs.length = m)) (HN : Hid (ws.length = n)) (hn : n ≤ 1048576) (HP : Hid (ARow w p ps)) (HB : Hid (ARow w b cs)) (HA : Hid (ARow w a ws)) (HD : Hid (Hs.dayB ps cs ws = true)) :
    Calls Try.prog 8 #[.slice p r f, .slice b m d, .slice a n c] w fun e w' => ∃ g, e = .returned (.tuple #[.slice (some ⟨g, 0, none⟩) n n, .bool true]) ∧ Below w.heap.size w w' ∧ w.heap.size ≤ g ∧ Ow w' g n (Hs.ownL ps cs ws) := by
  obtain ⟨f1, f2, f3⟩ := Hs.day_yes HD.out
  obtain rfl : m = r := by have := HR.out; have := HM.out; omega
  have HF := hide f1
  have H2 := hide f3
  clear f1 f2 f3
  go_enter Try.func8, Try.ntmps8
  go_wp2_with fail
  refine (sall17_eq HR HM HN hn HP HB HA HD).mono ?_
  rintro _ w1 ⟨rfl, hw⟩
  obtain rfl : w = w1 := hw.symm
  go_wp2_with fail
  refine (ss_any HN HM HR HF H2 HA HB HP).mono ?_
  rintro _ w3 ⟨g, rfl, hb3, hg, O⟩
  go_wp2_with fail
  go_ret2
  exact ⟨_, rfl, hb3, hg, O⟩
theorem ssf_r {p b a : Option Addr} {n m r c d f : Nat} {ps cs ws : List Int} {w : World} (HR : Hid (ps.length = r)) (HM : Hid (cs.length = m)) (HN : Hid (ws.length = n)) (hn : n ≤ 1048576) (HP : Hid (ARow w p ps)) (HB : Hid (ARow w b cs)) (HA : Hid (ARow w a ws)) (HD : Hid (Hs.dayB ps cs ws = true)) :
    Calls Try.prog 8 #[.slice p r f, .slice b m d, .slice a n c] w fun e w' => ∃ v cv, e = .returned (.tuple #[.slice v n cv, .bool true]) ∧ Below w.heap.size w w' ∧ ARow w' v (Hs.ownL ps cs ws) :=
  (ssf_yes HR HM HN hn HP HB HA HD).mono fun _ _ ⟨_, he, hb, _, o⟩ => ⟨_, _, he, hb, o.row ((Hs.ownL_len _ _ _).trans HN.out)⟩
end Go.Proofs.Ytlbagigghpiifaa
