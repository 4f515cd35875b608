/-
  Draws of chapter 6: DrawBestTable, DrawBestChoice, DrawGainsOf, DrawDropOffer.
-/
import Derived.Test.YtdlpbemjbmgbeaaCw
namespace Go.Proofs.Ytdlpbemjbmgbeaa
open Go.RowKit

theorem AR.pass {w wr w2 : World} {c : Nat} {v : Value} {ai : Option Addr} {xs : List Int} (h : AR w wr v ai xs) (hc : c < w.heap.size) (hk : Kp c wr w2) : AR w w2 v ai xs := by
  rcases h with h | ⟨b, off, f1, f2, f3, f4, f5⟩
  · exact Or.inl h
  · exact Or.inr ⟨b, off, f1, f2, Nat.lt_of_lt_of_le f3 hk.size, f4, fun i hi => (hk.cell (b := b) (o := off + i) f3 (by omega)).trans (f5 i hi)⟩
theorem LO.pass {w wr w2 : World} {c len cap N M : Nat} {a : Option Addr} {v : Value} {us : List Value} {L : List (List Int)} (h : LO w wr c len cap N a v us L) (hc : c < w.heap.size) (hk : Kp c wr w2) (hcur : Cur w2 c a len cap M) : LO w w2 c len cap M a v us L :=
  ⟨o_kp h.outer hk hc, fun i hi => by obtain ⟨ai, ci, e1, e2⟩ := h.each i hi; exact ⟨ai, ci, e1, e2.pass hc hk⟩, h.small, hcur, h.kp.trans hk⟩
theorem LO.val {w wr : World} {c len cap N : Nat} {a : Option Addr} {v : Value} {us : List Value} {L : List (List Int)} (h : LO w wr c len cap N a v us L) : ∃ ao C, v = .slice ao L.length C := by
  rcases h.outer.2 with ⟨hv, hl⟩ | ⟨g, cp, cur, hv, _⟩
  · exact ⟨none, 0, by rw [hl]; exact hv⟩
  · exact ⟨_, _, hv⟩
theorem kpn {w w' : World} {o : Obj} (h : Kp w.heap.size (w.alloc o) w') : Below w.heap.size w w' :=
  ((Below.refl _ w).alloc (Nat.le_refl _) o).trans (h.below (Nat.le_refl _) (by simp))
theorem src_hold {w : World} {a : Option Addr} {len : Nat} (o : Obj) (h : Src w a len) : ∀ b off, a = some ⟨b, off, none⟩ → 0 < len → b < (w.alloc o).heap.size := fun b off e hl => by
  have := h.2 b off e hl
  rw [World.size_alloc]; omega

set_option maxRecDepth 100000 in
set_option maxHeartbeats 1000000 in
theorem drawBT_any {a : Option Addr} {len cap : Nat} {w : World} (hs : Hid (Src w a len)) :
    Calls Try.prog 21 #[.slice a len cap] w fun e w' => ∃ ao C L p, e = .returned (.tuple #[.slice ao (List.length L) C, .int .i64 p]) ∧ L.length ≤ 13 ∧ L.length ≤ C ∧ (∀ i, (L.getD i []).length ≤ 6) ∧ ORow w' ao L ∧ Below w.heap.size w w' := by
  have HC := hide (cur_new (cap := cap) hs.out)
  have HH := hide (src_hold (.cells #[.slice a len cap, .int .i64 0, .int .u64 0] 65) hs.out)
  go_enter Try.func21, Try.ntmps21
  go_wp2_with fail
  refine (offers_any HC.out (by omega) HH.out).mono ?_
  rintro e w1 ⟨v1, us, L, rfl, hl, hL⟩
  obtain ⟨ao, C, rfl⟩ := hL.val
  have HL := hide hL
  clear hL HC HH
  go_wp2_with fail
  refine (few_any HL.out.cur (by omega)).mono ?_
  rintro e w2 ⟨p, rfl, hc2, hk2⟩
  have HL2 := hide (HL.out.pass (by simp) hk2 hc2)
  clear hc2 hk2 HL
  go_wp2_with fail
  refine bodyPost_ret (v := .tuple #[.slice ao L.length C, .int .i64 p]) (by simp [results, Try.results21, go_sem]) rfl ?_
  exact ⟨ao, C, L, p, rfl, hl, (HL2.out.row rfl).1, HL2.out.small, (HL2.out.row rfl).2, kpn HL2.out.kp⟩

set_option maxRecDepth 100000 in
set_option maxHeartbeats 1000000 in
theorem drawBC_any {a : Option Addr} {len cap : Nat} {w : World} (hs : Hid (Src w a len)) :
    Calls Try.prog 5 #[.slice a len cap] w fun e w' => ∃ ao C L p, e = .returned (.tuple #[.slice ao (List.length L) C, .int .i64 p]) ∧ L.length ≤ 13 ∧ L.length ≤ C ∧ (∀ i, (L.getD i []).length ≤ 6) ∧ ORow w' ao L ∧ Below w.heap.size w w' := by
  go_enter Try.func5, Try.ntmps5
  go_wp2_with fail
  refine (drawBT_any hs).mono ?_
  rintro e w1 ⟨ao, C, L, p, rfl, h⟩
  have H := hide h
  clear h
  go_wp2_with fail
  refine bodyPost_ret (v := .tuple #[.slice ao L.length C, .int .i64 p]) (by simp [results, Try.results5, go_sem]) rfl ?_
  exact ⟨ao, C, L, p, rfl, H.out⟩

set_option maxRecDepth 100000 in
set_option maxHeartbeats 1000000 in
theorem drawDO_any {a : Option Addr} {len cap : Nat} {w : World} (hs : Hid (Src w a len)) :
    Calls Try.prog 24 #[.slice a len cap] w fun e w' => ∃ ao C L k p, e = .returned (.tuple #[.slice ao (List.length L) C, .int .i64 k, .int .i64 p]) ∧ L.length ≤ 13 ∧ L.length ≤ C ∧ (∀ i, (L.getD i []).length ≤ 6) ∧ -1 ≤ k ∧ k ≤ L.length ∧ ORow w' ao L ∧ Below w.heap.size w w' := by
  have HC := hide (cur_new (cap := cap) hs.out)
  have HH := hide (src_hold (.cells #[.slice a len cap, .int .i64 0, .int .u64 0] 65) hs.out)
  go_enter Try.func24, Try.ntmps24
  go_wp2_with fail
  refine (offers_any HC.out (by omega) HH.out).mono ?_
  rintro e w1 ⟨v1, us, L, rfl, hl, hL⟩
  obtain ⟨ao, C, rfl⟩ := hL.val
  have HL := hide hL
  clear hL HC HH
  go_wp2_with fail
  refine (pick_any ((L.length : Int) + 2) (by omega) HL.out.cur (by omega)).mono ?_
  rintro e w2 ⟨k, rfl, hk0, hk1, hc2, hk2⟩
  have HL2 := hide (HL.out.pass (by simp) hk2 hc2)
  clear hc2 hk2 HL
  go_wp2_with fail
  refine (few_any HL2.out.cur (by omega)).mono ?_
  rintro e w3 ⟨p, rfl, hc3, hk3⟩
  have HL3 := hide (HL2.out.pass (by simp) hk3 hc3)
  clear hc3 hk3 HL2
  go_wp2_with fail
  refine bodyPost_ret (v := .tuple #[.slice ao L.length C, .int .i64 (k - 1), .int .i64 p]) (by simp [results, Try.results24, go_sem]) rfl ?_
  exact ⟨ao, C, L, k - 1, p, rfl, hl, (HL3.out.row rfl).1, HL3.out.small, by omega, by omega, (HL3.out.row rfl).2, kpn HL3.out.kp⟩
end Go.Proofs.Ytdlpbemjbmgbeaa
