/-
  Draws of chapter 6: DrawGainsOf.
-/
import Derived.Test.YtdlpbemjbmgbeaaCx
namespace Go.Proofs.Ytdlpbemjbmgbeaa
open Go.RowKit

theorem cells_4 (w : World) (t : TypeId) (z0 z1 z2 z3 : Int) : ∀ i, i < 4 → ∃ z : Int, (w.alloc (.cells #[.int .i64 z0, .int .i64 z1, .int .i64 z2, .int .i64 z3] t)).cell? ⟨w.heap.size, i, none⟩ = some (.int .i64 z) := by
  intro i hi
  have : i = 0 ∨ i = 1 ∨ i = 2 ∨ i = 3 := by omega
  rcases this with rfl | rfl | rfl | rfl
  · exact ⟨z0, by simp [go_sem]⟩
  · exact ⟨z1, by simp [go_sem]⟩
  · exact ⟨z2, by simp [go_sem]⟩
  · exact ⟨z3, by simp [go_sem]⟩
theorem cells_5 (w : World) (t : TypeId) (z0 z1 z2 z3 z4 : Int) : ∀ i, i < 5 → ∃ z : Int, (w.alloc (.cells #[.int .i64 z0, .int .i64 z1, .int .i64 z2, .int .i64 z3, .int .i64 z4] t)).cell? ⟨w.heap.size, i, none⟩ = some (.int .i64 z) := by
  intro i hi
  have : i = 0 ∨ i = 1 ∨ i = 2 ∨ i = 3 ∨ i = 4 := by omega
  rcases this with rfl | rfl | rfl | rfl | rfl
  · exact ⟨z0, by simp [go_sem]⟩
  · exact ⟨z1, by simp [go_sem]⟩
  · exact ⟨z2, by simp [go_sem]⟩
  · exact ⟨z3, by simp [go_sem]⟩
  · exact ⟨z4, by simp [go_sem]⟩

set_option maxRecDepth 100000 in
set_option maxHeartbeats 1000000 in
theorem drawGa_any {a : Option Addr} {len cap : Nat} {w : World} (hs : Hid (Src w a len)) :
    Calls Try.prog 17 #[.slice a len cap] w fun e w' => ∃ p f s k : Int, e = .returned (.tuple #[.int .i64 p, .int .i64 f, .int .i64 s, .int .i64 k]) ∧ Below w.heap.size w w' := by
  have HC := hide (cur_new (cap := cap) hs.out)
  go_enter Try.func17, Try.ntmps17
  go_wp2_with fail
  have HD := hide (HC.out.below (o_below_new _ (.cells #[.int .i64 0, .int .i64 1, .int .i64 50, .int .i64 100, .int .i64 101] 3)))
  have HX := hide (cells_5 (w.alloc (.cells #[.slice a len cap, .int .i64 0, .int .u64 0] 65)) 3 0 1 50 100 101)
  have hxs : (w.alloc (.cells #[.slice a len cap, .int .i64 0, .int .u64 0] 65)).heap.size = w.heap.size + 1 := by simp
  rw [hxs] at HX
  have HKa := hide (Kp.of_below (c := w.heap.size) (o_below_new (w.alloc (.cells #[.slice a len cap, .int .i64 0, .int .u64 0] 65)) (.cells #[.int .i64 0, .int .i64 1, .int .i64 50, .int .i64 100, .int .i64 101] 3)))
  have hxa : ((w.alloc (.cells #[.slice a len cap, .int .i64 0, .int .u64 0] 65)).alloc (.cells #[.int .i64 0, .int .i64 1, .int .i64 50, .int .i64 100, .int .i64 101] 3)).heap.size = w.heap.size + 2 := by simp
  generalize (w.alloc (.cells #[.slice a len cap, .int .i64 0, .int .u64 0] 65)).alloc (.cells #[.int .i64 0, .int .i64 1, .int .i64 50, .int .i64 100, .int .i64 101] 3) = wa at *
  refine (among_any HD.out (by omega) (by omega) (by omega) (by omega) (by omega) HX.out).mono ?_
  rintro e w1 ⟨p, rfl, hc1, hk1⟩
  have HC1 := hide hc1
  have HK1 := hide (HKa.out.trans hk1)
  have hs1 := hk1.size
  clear hc1 hk1 HC HX HD HKa
  go_wp2_with fail
  have HD := hide (HC1.out.below (o_below_new w1 (.cells #[.int .i64 0, .int .i64 7, .int .i64 100, .int .i64 (-1)] 3)))
  have HX := hide (cells_4 w1 3 0 7 100 (-1))
  have HKa := hide (Kp.of_below (c := w.heap.size) (o_below_new w1 (.cells #[.int .i64 0, .int .i64 7, .int .i64 100, .int .i64 (-1)] 3)))
  have hxb : (w1.alloc (.cells #[.int .i64 0, .int .i64 7, .int .i64 100, .int .i64 (-1)] 3)).heap.size = w1.heap.size + 1 := by simp
  generalize w1.alloc (.cells #[.int .i64 0, .int .i64 7, .int .i64 100, .int .i64 (-1)] 3) = wb at *
  refine (among_any HD.out (by omega) (by omega) (by omega) (by omega) (by omega) HX.out).mono ?_
  rintro e w2 ⟨f, rfl, hc2, hk2⟩
  have HC2 := hide hc2
  have HK2 := hide (HK1.out.trans (HKa.out.trans hk2))
  clear hc2 hk2 HC1 HK1 HX HD HKa
  go_wp2_with fail
  refine (pick_any 12 (by omega) HC2.out (by omega)).mono ?_
  rintro e w3 ⟨s, rfl, _, _, hc3, hk3⟩
  have HC3 := hide hc3
  have HK3 := hide (HK2.out.trans hk3)
  clear hc3 hk3 HC2 HK2
  go_wp2_with fail
  refine (pick_any 12 (by omega) HC3.out (by omega)).mono ?_
  rintro e w4 ⟨k, rfl, _, _, hc4, hk4⟩
  have HK4 := hide (HK3.out.trans hk4)
  clear hc4 hk4 HC3 HK3
  go_wp2_with fail
  refine bodyPost_ret (v := .tuple #[.int .i64 p, .int .i64 f, .int .i64 s, .int .i64 k]) (by simp [results, Try.results17, go_sem]) rfl ?_
  exact ⟨p, f, s, k, rfl, kpn HK4.out⟩
end Go.Proofs.Ytdlpbemjbmgbeaa
