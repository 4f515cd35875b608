/-
  Whether a good is among others: the library's search, as the program calls it.
-/
import Derived.Test.YtogkbidphdpjaaaUa15
import Derived.Test.YtogkbidphdpjaaaPg
import Derived.BigQuiet
namespace Go.Proofs.Ytogkbidphdpjaaa
open Go.RowKit

theorem good_held : Try.prog.stoodInHeld 68 = false := by kernel_rfl
theorem good_guard : Try.prog.eqGuardType Try.prog.depth 68 = false := by kernel_rfl
theorem good_struct : Try.prog.underlying 68 = some (.struct (Try.prog.fieldsOf 68)) := by kernel_rfl
theorem good_eq (s t : ByteArray) (a b : Int) (w : World) : (binOp .eql 68 (.agg #[.string s, .int .i64 a]) (.agg #[.string t, .int .i64 b])).run Try.prog w = .ok (.bool (s.toList == t.toList && a == b)) w := by
  have u3 := Try.underlying3
  have a3 := Try.isAgg3
  have z3 := Try.sizeOf3
  have u9 := Try.underlying9
  have a9 := Try.isAgg9
  have z9 := Try.sizeOf9
  rw [run_eql_struct, show (10000 : Nat) = 9999 + 1 from rfl, run_equalIn_agg w 9999 68 _ _ good_struct good_held]
  simp only [Program.fieldsOf, Try.underlying68]
  go_simp
  by_cases h1 : s.toList = t.toList <;> by_cases h2 : a = b <;> simp [h1, h2]
theorem good_eqg (x y : Operand) (s t : ByteArray) (a b : Int) (w : World) : (eqGuard .eql 68 x y (.agg #[.string s, .int .i64 a]) (.agg #[.string t, .int .i64 b])).run Try.prog w = .ok () w := run_eqGuard_agg w _ _ _ _ _ _ good_guard
theorem cont_yes {gs : List Gd} {x : ByteArray} {z : Int} {i : Nat} (hi : i < gs.length) (h : (x.toList == (gs.getD i gd0).1.toList && z == (gs.getD i gd0).2) = true) : contB gs (x, z) = true := by
  refine List.any_eq_true.2 ⟨gs.getD i gd0, ?_, h⟩
  rw [Pf.getD_lt _ _ hi]; exact List.getElem_mem hi
theorem cont_no {gs : List Gd} {x : ByteArray} {z : Int} (h : ∀ i, i < gs.length → (x.toList == (gs.getD i gd0).1.toList && z == (gs.getD i gd0).2) = false) : contB gs (x, z) = false := by
  cases e : contB gs (x, z)
  · rfl
  · obtain ⟨g, hg, hg'⟩ := List.any_eq_true.1 e
    obtain ⟨i, hi, rfl⟩ := List.getElem_of_mem hg
    have := h i hi
    rw [Pf.getD_lt _ _ hi, hg'] at this; cases this
set_option maxHeartbeats 2000000 in
theorem ix15_any {a : Option Addr} {n c : Nat} {gs : List Gd} {x : ByteArray} {z : Int} {w : World} (hn : gs.length = n) (hn' : n ≤ 1048576) (h : GRow w a gs) :
    Calls Try.prog 64 #[.slice a n c, .agg #[.string x, .int .i64 z]] w fun e w' => ∃ r : Int, e = .returned (.int .i64 r) ∧ -1 ≤ r ∧ r ≤ 1048576 ∧ decide (0 ≤ r) = contB gs (x, z) ∧ Below w.heap.size w w' := by
  have b1 := below_new w (.cells #[.string x, .int .i64 z] 68)
  have H := hide (h.below b1)
  have HN := hide hn
  have PB := hide (PBox.new w (.string x) (.int .i64 z) 68)
  have HB0 := hide b1
  have HSZ := hide (World.size_alloc w (.cells #[.string x, .int .i64 z] 68))
  clear h hn b1
  go_enter Try.func64, Try.ntmps64
  go_wp2_with fail
  generalize w.alloc (.cells #[.string x, .int .i64 z] 68) = W at *
  generalize hV : w.heap.size = V at *
  go_loopw [4, 5, 8] (fun _ _ s wr => ∃ k : Nat, s = .int .i64 k ∧ k ≤ n ∧ Hid (∀ i, i < k → (x.toList == (gs.getD i gd0).1.toList && z == (gs.getD i gd0).2) = false) ∧ Hid (Below W.heap.size W wr)) (fun _ _ s _ => n - (intOf s).toNat)
  case atStart => exact ⟨0, rfl, Nat.zero_le _, hide fun i hi => absurd hi (Nat.not_lt_zero _), hide (Below.refl _ _)⟩
  case round =>
    obtain ⟨k, rfl, hk, HA, HBl⟩ := hrel
    by_cases hlt : k < n
    · obtain ⟨b, off, rfl, hb, r1, r2⟩ := (H.out.below HBl.out).at (i := k) (by rw [HN.out]; exact hlt)
      obtain ⟨v0, v1, _⟩ := PB.out.below HBl.out
      have i0 : (0 : Int) ≤ (k : Int) := by omega
      have i1 : (k : Int) < (n : Int) := by omega
      have hklen : k < gs.length := by rw [HN.out]; exact hlt
      have HYES := hide (fun he => cont_yes (x := x) (z := z) hklen he)
      have HOK : Hid ((x.toList == (gs.getD k gd0).1.toList && z == (gs.getD k gd0).2) = false → ∀ i, i < k + 1 → (x.toList == (gs.getD i gd0).1.toList && z == (gs.getD i gd0).2) = false) := hide fun he i hi => by
        by_cases e : i = k
        · subst e; exact he
        · exact HA.out i (by omega)
      generalize (gs.getD k gd0).1 = y at *
      generalize (gs.getD k gd0).2 = u at *
      have ge := good_eq x y z u
      have gg := fun p q => good_eqg p q x y z u
      clear hklen HA
      cases he : (x.toList == y.toList && z == u)
      · have HK := hide (HOK.out he)
        rw [he] at ge
        clear HYES HOK he
        go_wp2_with fail
        go_quiet (fail)
        go_wp2_with fail
        go_round
        case rel => exact ⟨k + 1, by go_num, by omega, HK, hide (below_drewN HBl.out _)⟩
        case measure => simp only [intOf]; omega
      · have HK := hide (HYES.out he)
        rw [he] at ge
        clear HYES HOK he
        go_wp2_with fail
        go_quiet (fail)
        go_wp2_with fail
        go_ret
        exact ⟨(k : Int), rfl, by omega, by omega, by rw [HK.out]; simp, by rw [hV]; exact HB0.out.trans ((below_drewN HBl.out _).mono (by have := HSZ.out; omega))⟩
    · have hke : k = n := by omega
      have HK := hide (cont_no (gs := gs) (x := x) (z := z) fun i hi => HA.out i (by rw [HN.out] at hi; omega))
      clear HA
      subst hke
      go_wp2_with fail
      go_ret
      exact ⟨-1, rfl, by omega, by omega, by rw [HK.out]; rfl, by rw [hV]; exact HB0.out.trans (HBl.out.mono (by have := HSZ.out; omega))⟩
set_option maxHeartbeats 1000000 in
theorem cont_any {a : Option Addr} {n c : Nat} {gs : List Gd} {x : ByteArray} {z : Int} {w : World} {r : Bool} (hr : Hid (contB gs (x, z) = r)) (hn : gs.length = n) (hn' : n ≤ 1048576) (h : GRow w a gs) :
    Calls Try.prog 59 #[.slice a n c, .agg #[.string x, .int .i64 z]] w fun e w' => e = .returned (.bool r) ∧ Below w.heap.size w w' := by
  have b1 := below_new w (.cells #[.string x, .int .i64 z] 68)
  have H := hide (ix15_any (c := c) (x := x) (z := z) hn hn' (h.below b1))
  have HB0 := hide b1
  clear h b1
  go_enter Try.func59, Try.ntmps59
  go_wp2_with (go_at_call 64; refine H.out.mono ?_; rintro e w1 ⟨q, rfl, q0, q1, hq, hb1⟩; have HQ := hide hq; have HB1 := hide (HB0.out.trans (hb1.mono HB0.out.size)); clear hq hb1)
  go_ret
  exact ⟨by rw [← hr.out, ← HQ.out]; rfl, HB1.out⟩
end Go.Proofs.Ytogkbidphdpjaaa
