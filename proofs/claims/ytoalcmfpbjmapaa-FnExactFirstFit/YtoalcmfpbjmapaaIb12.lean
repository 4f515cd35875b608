/-
  Sets of ints: slices.Index, slices.Contains and add of the program.
-/
import Derived.Test.YtoalcmfpbjmapaaIa12
import Derived.Test.YtoalcmfpbjmapaaJb
import Derived.Test.YtoalcmfpbjmapaaHv
import Derived.Test.YtoalcmfpbjmapaaPn
import Derived.Test.YtoalcmfpbjmapaaF
import Derived.BigQuiet
namespace Go.Proofs.Ytoalcmfpbjmapaa
open Go.RowKit

set_option maxHeartbeats 1000000 in
theorem six_any {a : Option Addr} {n c : Nat} {xs : List Int} {x : Int} {w : World} (hx : xs.length = n) (hn : n ≤ 1048576) (ha : ARow w a xs) :
    Calls Try.prog 70 #[.slice a n c, .int .i64 x] w fun e w' => e = .returned (.int .i64 (Ma.idx xs x)) ∧ w' = w := by
  have HA := hide ha
  have HX := hide hx
  clear ha hx
  go_enter Try.func70, Try.ntmps70
  go_wp2_with fail
  go_loop [4, 5, 8] (fun s4 _ s => ∃ (k : Nat), s4 = .int .i64 0 ∧ s = .int .i64 k ∧ k ≤ n ∧ Hid (∀ j, j < k → (xs.getD j 0 == x) = false)) (fun _ _ s => n - (intOf s).toNat)
  case atStart => exact ⟨0, rfl, rfl, Nat.zero_le _, hide fun i hi => absurd hi (Nat.not_lt_zero _)⟩
  case round =>
    obtain ⟨k, rfl, rfl, hk, HK⟩ := hrel
    by_cases hlt : k < n
    · obtain ⟨b, off, rfl, r1⟩ := HA.out.at (i := k) (by rw [HX.out]; exact hlt)
      have i0 : (0 : Int) ≤ (k : Int) := by omega
      have i1 : (k : Int) < (n : Int) := by omega
      have HY := hide fun (h : (xs.getD k 0 == x) = true) => Ma.idx_at (show k < xs.length by rw [HX.out]; exact hlt) h HK.out
      generalize hy : xs.getD k 0 = y at *
      cases hb : (y == x)
      · have hb' : (x == y) = false := by rw [beq_eq_false_iff_ne] at hb ⊢; exact fun e => hb e.symm
        have H1 : Hid (∀ j, j < k + 1 → (xs.getD j 0 == x) = false) := hide fun j hj => by
          by_cases e : j = k
          · subst e; rw [hy]; exact hb
          · exact HK.out j (by omega)
        clear hy
        go_wp2_with fail
        go_round
        case rel => exact ⟨k + 1, rfl, by go_num, by omega, H1⟩
        case measure => simp only [intOf]; omega
      · have hb' : (x == y) = true := by rw [beq_iff_eq] at hb ⊢; exact hb.symm
        have H1 := hide (HY.out hb)
        clear hy
        go_wp2_with fail
        go_ret
        exact ⟨ret_int H1.out.symm, rfl⟩
    · have hke : k = n := by omega
      subst hke
      have H1 := hide (Ma.idx_none (xs := xs) (x := x) (by rw [HX.out]; exact HK.out))
      go_wp2_with fail
      go_ret
      exact ⟨ret_int H1.out.symm, rfl⟩
set_option maxHeartbeats 1000000 in
theorem scon_any {a : Option Addr} {n c : Nat} {xs : List Int} {x : Int} {w : World} (hx : xs.length = n) (hn : n ≤ 1048576) (ha : ARow w a xs) :
    Calls Try.prog 64 #[.slice a n c, .int .i64 x] w fun e w' => e = .returned (.bool (xs.contains x)) ∧ w' = w := by
  have HC := hide (six_any (c := c) (x := x) hx hn ha)
  have HE := hide (Ma.idx_has xs x)
  generalize Ma.idx xs x = q at *
  clear ha hx
  go_enter Try.func64, Try.ntmps64
  go_wp2_with fail
  refine HC.out.mono ?_
  rintro e w1 ⟨rfl, rfl⟩
  go_wp2_with fail
  go_ret
  exact ⟨ret_bool HE.out, rfl⟩
theorem scon_eq {a : Option Addr} {n c : Nat} {xs : List Int} {x : Int} {w : World} {r : Bool} (hx : Hid (xs.length = n)) (hn : n ≤ 1048576) (ha : Hid (ARow w a xs)) (h : Hid (xs.contains x = r)) :
    Calls Try.prog 64 #[.slice a n c, .int .i64 x] w fun e w' => e = .returned (.bool r) ∧ w' = w := h.out ▸ scon_any hx.out hn ha.out
theorem push_set {w : World} {base n : Nat} {v : Value} {xs : List Value} {x : Int} (hown : w.ownsRow base 3 1 v n xs) (hn : n ≤ 100000) (hb : base ≤ w.heap.size) :
    ∃ v' w', (∀ ty, (Builtin.append_ #[61, 61] ty #[v, .slice (some ⟨w.heap.size, 0, none⟩) 1 1]).run Try.prog (w.alloc (.cells #[.int .i64 x] 3)) = .ok v' w') ∧ w'.ownsRow base 3 1 v' (n + 1) (xs ++ [.int .i64 x]) ∧ w.grownBy w' v.ownBlock := by
  obtain ⟨i0, hi, hz0, hz1, hz2⟩ := infoI
  obtain ⟨v', w', h1, h2, h3⟩ := run_append_v (P := Try.prog) (w.alloc (.cells #[.int .i64 x] 3)) base 61 0 3 i0 _ 8 Try.underlying61 hi hz0 hz1 hz2 rfl v n xs (hown.alloc _) (some ⟨w.heap.size, 0, none⟩) 1 1 [.int .i64 x] rfl (vrow_new w _ 3) (fun u hu => by simp at hu; subst hu; rfl) (by unfold maxLen; omega) (by omega) (by simp; omega)
  refine ⟨v', w', fun _ => h1, h2, ?_⟩
  exact ⟨h3.os, h3.tape, h3.output, Nat.le_trans (by simp) h3.size, fun b hbs he => (h3.block b (by simp; omega) he).trans ((below_alloc w _).block b hbs)⟩
/-- A set of ints in a variable: its list lies from B on. -/
def SI (W : World) (P B : Nat) (xs : List Int) : Prop := P < B ∧ B ≤ W.heap.size ∧ ∃ v, W.cell? ⟨P, 0, none⟩ = some v ∧ W.frozen? ⟨P, 0, none⟩ = false ∧ W.ownsRow B 3 1 v xs.length (ints xs)
set_option maxHeartbeats 1000000 in
theorem add_any {P B : Nat} {xs : List Int} {x : Int} {w : World} (h : SI w P B xs) (hn : xs.length ≤ 1000) :
    Calls Try.prog 58 #[.pointer (some ⟨P, 0, none⟩), .int .i64 x] w fun e w' => e = .returned (.bool (!xs.contains x)) ∧ SI w' P B (if xs.contains x then xs else xs ++ [x]) ∧ Below P w w' := by
  obtain ⟨hP, hB, v, c0, f0, own⟩ := h
  obtain ⟨a, c, rfl, ra⟩ := own_row rfl own
  generalize hn' : xs.length = n at *
  have HX := hide hn'
  have HA := hide ra
  cases hc : xs.contains x
  · obtain ⟨v', w', hr, own', hg⟩ := push_set (x := x) own (by omega) hB
    obtain ⟨a', c', rfl⟩ := own_form own'
    have HC := hide hc
    have hfar : ∀ b, b < B → w'.heap[b]? = w.heap[b]? := fun b hb => hg.block b (by omega) (fun e => by have := (own.lt b e.symm).1; omega)
    have c1 : w'.cell? ⟨P, 0, none⟩ = some (.slice a n c) := (World.cell?_of_block (a := ⟨P, 0, none⟩) (hfar P hP)).trans c0
    have f1 : w'.frozen? ⟨P, 0, none⟩ = false := (World.frozen?_of_block (a := ⟨P, 0, none⟩) (hfar P hP)).trans f0
    have hb1 : Below P w w' := ⟨hg.os, hg.tape, hg.output, hg.size, fun b hb => hfar b (by omega)⟩
    have HO : Hid (SI (w'.setCell ⟨P, 0, none⟩ (.slice a' (n + 1) c')) P B (xs ++ [x])) := hide (by
      refine ⟨hP, by simpa using Nat.le_trans hB hg.size, _, World.cell?_setCell_same _ _ _ c1, ?_, ?_⟩
      · rw [World.frozen?_setCell]; exact f1
      · rw [List.length_append, hn', ints_snoc]
        refine own_keep own' fun g hv _ => ?_
        have hg' := (own'.lt g hv).1
        exact Below.heap_setCell _ ⟨P, 0, none⟩ _ g (by show g ≠ P; omega))
    have HB := hide (hb1.setCell (p := ⟨P, 0, none⟩) (Nat.le_refl _) (.slice a' (n + 1) c'))
    have hc0 : (w.alloc (.cells #[.int .i64 x] 3)).cell? ⟨P, 0, none⟩ = some (.slice a n c) := ((below_alloc w _).cell (p := ⟨P, 0, none⟩) (by show P < _; omega)).trans c0
    clear hc hn' ra own own' hg hb1 hfar
    go_enter Try.func58, Try.ntmps58
    go_wp2_with fail
    refine (scon_eq HX (by omega) HA HC).mono ?_
    rintro e w1 ⟨rfl, rfl⟩
    go_wp2_with (at_builtin; refine Lib.wpList_append_run _ rfl _ _ _ _ rfl _ _ rfl rfl _ _ (hr _) ?_)
    go_ret
    exact ⟨rfl, HO.out, HB.out⟩
  · have HC := hide hc
    have HO : Hid (SI w P B xs) := hide ⟨hP, hB, _, c0, f0, by rw [hn']; exact own⟩
    clear hc hn' ra own
    go_enter Try.func58, Try.ntmps58
    go_wp2_with fail
    refine (scon_eq HX (by omega) HA HC).mono ?_
    rintro e w1 ⟨rfl, rfl⟩
    go_wp2_with fail
    go_ret
    exact ⟨rfl, HO.out, Below.refl _ _⟩
end Go.Proofs.Ytoalcmfpbjmapaa
