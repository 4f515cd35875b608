/-
  What goRound, CyclesIn and the model's l7Rings, CyclesIn answer: the rings of an order.
-/
import Derived.Test.YthhahfcdnpegfaaHd
import Derived.Test.YthhahfcdnpegfaaHv
import Derived.Deep.LoopGhost
namespace Go.Proofs.Ythhahfcdnpegfaa
open Go.RowKit

theorem grown_step {wo wr w' : World} {S : Nat} {r : Option Nat} (h : wo.grownBy wr (some S)) (h2 : wr.grownBy w' r) (h3 : ∀ k, r = some k → wo.heap.size ≤ k ∨ k = S) : wo.grownBy w' (some S) :=
  ⟨h2.os.trans h.os, h2.tape.trans h.tape, h2.output.trans h.output, Nat.le_trans h.size h2.size, fun b hb hne => (h2.block b (Nat.lt_of_lt_of_le hb h.size) (fun e => by
    rcases h3 b e.symm with h | h
    · omega
    · exact hne (by rw [h]))).trans (h.block b hb hne)⟩
set_option maxRecDepth 100000 in
set_option maxHeartbeats 2000000 in
theorem gr_any {a : Option Addr} {n c G base s : Nat} {xs : List Int} {l : List Bool} {w : World} (ho : Od.ordB xs n = true) (hl : l.length = n) (hs : s < n) (ha : ∀ w', w.grownBy w' (some G) → ARow w' a xs)
    (hown : w.ownsRow base 4 1 (.slice (some ⟨G, 0, none⟩) n n) n (bls l)) :
    Calls Try.prog 53 #[.slice a n c, .int .i64 s, .slice (some ⟨G, 0, none⟩) n n] w fun e w' => e = .returned (.tuple #[]) ∧ w'.ownsRow base 4 1 (.slice (some ⟨G, 0, none⟩) n n) n (bls (Od.gone xs l s)) ∧ w.grownBy w' (some G) := by
  have HA := hide ha
  have HO := hide ho
  have HX := hide (Od.ordB_len ho)
  clear ha ho
  go_enter Try.func53, Try.ntmps53
  go_wp2_with fail
  go_loopg [6] (l.count false) (fun g v wr => ∃ (k : Nat) (m : List Bool), v = .int .i64 k ∧ k < n ∧ m.length = n ∧ Hid (m.count false ≤ g) ∧ Hid (Od.gone xs m k = Od.gone xs l s) ∧ wr.ownsRow base 4 1 (.slice (some ⟨G, 0, none⟩) n n) n (bls m) ∧ w.grownBy wr (some G))
  case atStart => exact ⟨s, l, rfl, hs, hl, hide (Nat.le_refl _), hide rfl, hown, World.grownBy.refl _ _⟩
  case round =>
    obtain ⟨k, m, rfl, hk, hm, HC, HE, hown', hg⟩ := hrel
    have i0 : (0 : Int) ≤ (k : Int) := by omega
    have i1 : (k : Int) < (n : Int) := by omega
    have c0 : wr.cell? ⟨G, k, none⟩ = some (.bool (m.getD k true)) := by
      rw [hown'.cellAt k (by rw [Nat.mul_one]; exact hk), bls_get _ k (by rw [hm]; exact hk) true]
    cases hb : m.getD k true
    · rw [hb] at c0
      have HCS := hide (Od.count_set hb)
      have HES := hide ((Od.gone_step (xs := xs) hb).symm.trans HE.out)
      have f0 := hown'.frozenAt k
      obtain ⟨st1, st2⟩ := hown'.stored k (.bool true)
      rw [bls_set] at st1
      have HST := hide st1
      have HG2 : Hid (w.grownBy (wr.setCell ⟨G, k, none⟩ (.bool true)) (some G)) := hide (grown_step hg st2 (fun _ e => by right; cases e; rfl))
      obtain ⟨b, off, rfl, r1⟩ := (HA.out _ HG2.out).at (i := k) (by rw [HX.out]; exact hk)
      rw [Od.nth_cast HO.out hk] at r1
      have HJ := hide (Od.nth_lt HO.out hk)
      generalize Od.nth xs k = j at *
      clear hb st1 st2 hown' hg
      go_wp2_with fail
      go_roundg (gk - 1)
      case measure => have := HC.out; have := HCS.out; omega
      case rel => exact ⟨j, m.set k true, rfl, HJ.out, by simpa using hm, hide (by have := HC.out; have := HCS.out; omega), HES, HST.out, HG2.out⟩
    · rw [hb] at c0
      have HE2 := hide (show Od.gone xs l s = m by rw [← HE.out]; exact Od.gone_stop hb)
      clear hb
      go_wp2_with fail
      go_end0
      rw [HE2.out]
      exact ⟨rfl, hown', hg⟩
def cyB (xs : List Int) : Bool := decide (xs.length ≤ 10) && Od.ordB xs xs.length
def cyI (xs : List Int) : Int := if cyB xs then (Od.rings xs : Int) else 0
theorem cyB_yes {xs : List Int} (h : cyB xs = true) : xs.length ≤ 10 ∧ Od.ordB xs xs.length = true := by simpa [cyB] using h
set_option maxRecDepth 100000 in
set_option maxHeartbeats 400000 in
theorem cy_many {a : Option Addr} {n c : Nat} {w : World} (h : 10 < n) :
    Calls Try.prog 27 #[.slice a n c] w fun e w' => e = .returned (.tuple #[.int .i64 0, .bool false]) ∧ Below w.heap.size w w' := by
  have h1 : (10 : Int) < n := by omega
  go_enter Try.func27, Try.ntmps27
  go_wp2_with fail
  go_ret2
  exact ⟨rfl, Below.refl _ _⟩
set_option maxRecDepth 100000 in
set_option maxHeartbeats 400000 in
theorem cy_no {a : Option Addr} {n c : Nat} {xs : List Int} {w : World} (h : n ≤ 10) (HX : Hid (xs.length = n)) (HA : Hid (ARow w a xs)) (HO : Hid (Od.ordB xs n = false)) :
    Calls Try.prog 27 #[.slice a n c] w fun e w' => e = .returned (.tuple #[.int .i64 0, .bool false]) ∧ Below w.heap.size w w' := by
  have h1 : ¬ (10 : Int) < n := by omega
  go_enter Try.func27, Try.ntmps27
  go_wp2_with fail
  refine (eo_eq HX h HA HO).mono ?_
  rintro e w1 ⟨rfl, hb1⟩
  go_wp2_with fail
  go_ret2
  exact ⟨rfl, hb1⟩
set_option maxRecDepth 100000 in
set_option maxHeartbeats 2000000 in
theorem cy_yes {a : Option Addr} {n c : Nat} {xs : List Int} {w : World} (h : n ≤ 10) (HX : Hid (xs.length = n)) (HA : Hid (ARow w a xs)) (HO : Hid (Od.ordB xs n = true)) :
    Calls Try.prog 27 #[.slice a n c] w fun e w' => e = .returned (.tuple #[.int .i64 (Od.rings xs), .bool true]) ∧ Below w.heap.size w w' := by
  have h1 : ¬ (10 : Int) < n := by omega
  have hmk := makeB_run n (by omega)
  go_enter Try.func27, Try.ntmps27
  go_wp2_with fail
  refine (eo_eq HX h HA HO).mono ?_
  rintro e w1 ⟨rfl, hb1⟩
  have HM := hide (madeB_own w1 n (by omega))
  have HA1 := hide (HA.out.below hb1)
  go_wp2_with fail
  go_loopw [4, 6, 22] (fun s4 _ s wr => ∃ (k r : Nat) (m : List Bool), s4 = .int .i64 r ∧ s = .int .i64 k ∧ k ≤ n ∧ r ≤ k ∧ Hid ((m, r) = Od.ringsTo xs n k) ∧ m.length = n ∧ wr.ownsRow w1.heap.size 4 1 (.slice (some ⟨w1.heap.size, 0, none⟩) n n) n (bls m) ∧ Below w1.heap.size w1 wr) (fun _ _ s _ => n - (intOf s).toNat)
  case atStart => exact ⟨0, 0, List.replicate n false, rfl, rfl, Nat.zero_le _, Nat.le_refl _, hide rfl, by simp, HM.out, (Below.refl _ _).alloc (Nat.le_refl _) _⟩
  case round =>
    obtain ⟨k, r, m, rfl, rfl, hk, hr, HR, hm, hown, hB⟩ := hrel
    clear hmk HM
    by_cases hlt : k < n
    · have i0 : (0 : Int) ≤ (k : Int) := by omega
      have i1 : (k : Int) < (n : Int) := by omega
      have c0 : wr.cell? ⟨w1.heap.size, k, none⟩ = some (.bool (m.getD k true)) := by
        rw [hown.cellAt k (by rw [Nat.mul_one]; exact hlt), bls_get _ k (by rw [hm]; exact hlt) true]
      have HZ := hide hB.size
      cases hb : m.getD k true
      · rw [hb] at c0
        have HS : Hid ((Od.gone xs m k, r + 1) = Od.ringsTo xs n (k + 1)) := hide (by simp only [Od.ringsTo]; rw [← HR.out]; show _ = (Od.gone xs m k, if m.getD k true = false then r + 1 else r); rw [if_pos hb])
        have HG := hide (gr_any (c := c) (s := k) HO.out hm hlt (fun w' hg => HA1.out.keep (Nat.le_trans hB.size hg.size) (fun b hb' => (hg.block b (Nat.lt_of_lt_of_le hb' hB.size) (by simp; omega)).trans (hB.block b hb'))) hown)
        have HL := hide ((Od.gone_len xs _ m k rfl).trans hm)
        clear hb hown
        go_wp2_with fail
        refine HG.out.mono ?_
        rintro e w2 ⟨rfl, own2, hg2⟩
        go_wp2_with fail
        go_roundw
        case rel => exact ⟨k + 1, r + 1, Od.gone xs m k, by go_num, by go_num, by omega, by omega, HS, HL.out, own2, hB.trans (grown_below' hg2 (Nat.le_refl _) HZ.out)⟩
        case measure => simp only [intOf]; omega
      · rw [hb] at c0
        have HS : Hid ((m, r) = Od.ringsTo xs n (k + 1)) := hide (by simp only [Od.ringsTo]; rw [← HR.out]; simp only [hb]; rw [Od.gone_stop hb]; rfl)
        clear hb
        go_wp2_with fail
        go_roundw
        case rel => exact ⟨k + 1, r, m, rfl, by go_num, by omega, by omega, HS, hm, hown, hB⟩
        case measure => simp only [intOf]; omega
    · have hke : k = n := by omega
      subst hke
      have HE := hide (show r = Od.rings xs by rw [Od.rings, HX.out, ← HR.out])
      go_wp2_with fail
      go_ret2
      exact ⟨by rw [← HE.out]; rfl, hb1.trans (hB.mono hb1.size)⟩
theorem cy_w {a : Option Addr} {n c : Nat} {xs : List Int} {w : World} (hx : xs.length = n) (ha : ARow w a xs) :
    Calls Try.prog 27 #[.slice a n c] w fun e w' => e = .returned (.tuple #[.int .i64 (cyI xs), .bool (cyB xs)]) ∧ Below w.heap.size w w' := by
  unfold cyI
  by_cases h : n ≤ 10
  · cases ho : Od.ordB xs n
    · have e : cyB xs = false := by simp [cyB, hx, ho]
      rw [e]; exact cy_no h (hide hx) (hide ha) (hide ho)
    · have e : cyB xs = true := by simp [cyB, hx, ho, h]
      rw [e]; exact cy_yes h (hide hx) (hide ha) (hide ho)
  · have e : cyB xs = false := by simp [cyB, hx, h]
    rw [e]; exact cy_many (by omega)
end Go.Proofs.Ythhahfcdnpegfaa
