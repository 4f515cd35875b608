/-
  What l2Terms and CompareRoots answer, the program's and the model's, over rows of one or two numbers.
-/
import Derived.Test.YtdmdhmcnedmnbaaYb
namespace Go.Proofs.Ytdmdhmcnedmnbaa
open Go.RowKit

set_option maxHeartbeats 400000 in
theorem all_any (xs : List Int) (b o c : Nat) (w : World) (h1 : xs.length ≤ 2) (hc : ∀ i, i < xs.length → w.cell? ⟨b, o + i, none⟩ = some (.int .i64 (xs.getD i 0))) :
    Calls Try.prog 78 #[.slice (some ⟨b, o, none⟩) xs.length c, .int .i64 0, .int .i64 1000] w fun e w' => e = .returned (.bool (xs.all okN)) ∧ w' = w := by
  have HCC := hide hc
  clear hc
  go_enter Try.func78, Try.ntmps78
  go_wp2_with fail
  go_loop [11] (fun s => ∃ k : Nat, s = .int .i64 k ∧ k ≤ xs.length ∧ Hid ((xs.take k).all okN = true)) (fun s => xs.length - (intOf s).toNat)
  case atStart => exact ⟨0, rfl, Nat.zero_le _, hide (by simp)⟩
  case round =>
    obtain ⟨k, rfl, hk, HA⟩ := hrel
    by_cases hlt : k < xs.length
    · have r1 := HCC.out k hlt
      have i0 : (0 : Int) ≤ (k : Int) := by omega
      have i1 : (k : Int) < (xs.length : Int) := by omega
      have hx : xs[k]? = some (xs.getD k 0) := by simp [hlt]
      have HX := hide hx
      clear hx
      generalize xs.getD k 0 = x at *
      cases hok : okN x
      · have HV := hide (show xs.all okN = false by
          rw [List.all_eq_false]; exact ⟨x, List.mem_of_getElem? HX.out, by simp [hok]⟩)
        have HO := hide (show x < 0 ∨ 1000 < x by simp [okN] at hok; omega)
        clear hok
        go_wp2_with fail
        refine (in_no HO.out).mono ?_
        rintro e w1 ⟨rfl, hw⟩
        obtain rfl : w = w1 := hw.symm
        go_wp2_with fail
        go_ret
        exact ⟨ret_bool HV.out.symm, rfl⟩
      · have HO := hide (show 0 ≤ x ∧ x ≤ 1000 by simpa [okN] using hok)
        have HK := hide hok
        clear hok
        go_wp2_with fail
        refine (in_yes HO.out.1 HO.out.2).mono ?_
        rintro e w1 ⟨rfl, hw⟩
        obtain rfl : w = w1 := hw.symm
        go_wp2_with fail
        go_round
        case rel => exact ⟨k + 1, by go_num, by omega, hide (by rw [List.take_add_one, HX.out, List.all_append, HA.out]; simp [HK.out])⟩
        case measure => simp only [intOf]; omega
    · have hke : k = xs.length := by omega
      subst hke
      have HV := hide (show xs.all okN = true by have := HA.out; rwa [List.take_length] at this)
      go_wp2_with fail
      go_ret
      exact ⟨ret_bool HV.out.symm, rfl⟩

set_option maxHeartbeats 400000 in
theorem terms_len (a : Option Addr) (n c : Nat) (w : World) (h : n < 1 ∨ 2 < n) :
    Calls Try.prog 61 #[.slice a n c] w fun e w' => e = .returned (.bool false) ∧ w' = w := by
  have H := hide (show (n : Int) < 1 ∨ (2 : Int) < n by omega)
  clear h
  go_enter Try.func61, Try.ntmps61
  go_wp2_with fail
  refine (in_no H.out).mono ?_
  rintro e w1 ⟨rfl, rfl⟩
  go_wp2_with fail
  go_ret
  exact ⟨rfl, rfl⟩
set_option maxHeartbeats 400000 in
theorem terms_any (xs : List Int) (b o c : Nat) (w : World) (h0 : 1 ≤ xs.length) (h1 : xs.length ≤ 2) (hc : ∀ i, i < xs.length → w.cell? ⟨b, o + i, none⟩ = some (.int .i64 (xs.getD i 0))) :
    Calls Try.prog 61 #[.slice (some ⟨b, o, none⟩) xs.length c] w fun e w' => e = .returned (.bool (xs.all okN)) ∧ w' = w := by
  have H := hide (all_any xs b o c w h1 hc)
  have H0 := hide (show (1 : Int) ≤ xs.length by omega)
  have H1 := hide (show (xs.length : Int) ≤ 2 by omega)
  clear hc
  go_enter Try.func61, Try.ntmps61
  go_wp2_with fail
  refine (in_yes H0.out H1.out).mono ?_
  rintro e w1 ⟨rfl, hw⟩
  obtain rfl : w = w1 := hw.symm
  go_wp2_with fail
  refine H.out.mono ?_
  rintro e w1 ⟨rfl, hw⟩
  obtain rfl : w = w1 := hw.symm
  go_wp2_with fail
  go_ret
  exact ⟨rfl, rfl⟩
set_option maxHeartbeats 400000 in
theorem term_one (b o c : Nat) (w : World) :
    Calls Try.prog 63 #[.slice (some ⟨b, o, none⟩) 1 c, .int .i64 1] w fun e w' => e = .returned (.int .i64 0) ∧ w' = w := by
  go_enter Try.func63, Try.ntmps63
  go_wp2_with fail
  go_ret
  exact ⟨rfl, rfl⟩
set_option maxHeartbeats 400000 in
theorem term_two (b o c : Nat) (y : Int) (w : World) (hd : w.cell? ⟨b, o + 1, none⟩ = some (.int .i64 y)) :
    Calls Try.prog 63 #[.slice (some ⟨b, o, none⟩) 2 c, .int .i64 1] w fun e w' => e = .returned (.int .i64 y) ∧ w' = w := by
  go_enter Try.func63, Try.ntmps63
  go_wp2_with fail
  go_ret
  exact ⟨rfl, rfl⟩

/-- A row of one or two numbers: what lies there, the second one 0 where there is none. -/
structure Pair (w : World) (v : Value) (x y : Int) : Prop where
  shape : ∃ b o c n, v = .slice (some ⟨b, o, none⟩) n c ∧ b < w.heap.size ∧ w.cell? ⟨b, o, none⟩ = some (.int .i64 x) ∧ ((n = 1 ∧ y = 0) ∨ (n = 2 ∧ w.cell? ⟨b, o + 1, none⟩ = some (.int .i64 y)))
  x0 : 0 ≤ x
  x1 : x ≤ 1000
  y0 : 0 ≤ y
  y1 : y ≤ 1000
theorem Pair.term {w : World} {v : Value} {x y : Int} (h : Pair w v x y) : Calls Try.prog 63 #[v, .int .i64 1] w fun e w' => e = .returned (.int .i64 y) ∧ w' = w := by
  obtain ⟨b, o, c, n, rfl, hb, hx, ⟨rfl, rfl⟩ | ⟨rfl, hy⟩⟩ := h.shape
  · exact term_one b o c w
  · exact term_two b o c y w hy
theorem Pair.sum {w w' : World} {v : Value} {x y : Int} (h : Pair w v x y) (hB : Below w.heap.size w w') : Calls Try.prog 60 #[v] w' fun e w'' => e = .returned (.agg #[.int .i64 (x + y), .int .i64 (4 * x * y)]) ∧ Below w'.heap.size w' w'' := by
  obtain ⟨b, o, c, n, rfl, hb, hx, ⟨rfl, rfl⟩ | ⟨rfl, hy⟩⟩ := h.shape
  · have := sum1_any b o c x w' (Nat.lt_of_lt_of_le hb hB.size) ((hB.cell (p := ⟨b, o, none⟩) hb).trans hx)
    simpa using this
  · exact sum2_any b o c x y w' h.x0 h.x1 h.y0 h.y1 (Nat.lt_of_lt_of_le hb hB.size) ((hB.cell (p := ⟨b, o, none⟩) hb).trans hx) ((hB.cell (p := ⟨b, o + 1, none⟩) hb).trans hy)
theorem near_nat (x : Int) (h : 0 ≤ x) : FloatKind.f64.nearest x = Ieee.double.nearest false x.toNat 0 := by
  have hneg : decide (x < 0) = false := by simp; omega
  show Ieee.double.nearest (decide (x < 0)) x.natAbs 0 = _
  rw [hneg]; congr 1; omega
theorem Pair.guess {w : World} {v : Value} {x y : Int} {s t : Nat} (h : Pair w v x y) (hs : Ieee.double.sqrt (Ieee.double.nearest false x.toNat 0) = some s) (ht : Ieee.double.sqrt (Ieee.double.nearest false y.toNat 0) = some t) :
    Calls Try.prog 76 #[v] w fun e w' => e = .returned (.complex .f64 s t) ∧ w' = w := by
  rw [← near_nat x h.x0] at hs
  rw [← near_nat y h.y0] at ht
  obtain ⟨b, o, c, n, rfl, hb, hx, ⟨rfl, rfl⟩ | ⟨rfl, hy⟩⟩ := h.shape
  · exact guess1_any b o c s t x w hx hs ht
  · exact guess2_any b o c s t x y w hx hy hs ht
end Go.Proofs.Ytdmdhmcnedmnbaa
