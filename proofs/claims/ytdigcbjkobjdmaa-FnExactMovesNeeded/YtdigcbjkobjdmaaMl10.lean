/-
  What moveHome, moveAside and nextMove of the program and l10Next of the model answer.
-/
import Derived.Test.YtdigcbjkobjdmaaMj10
import Derived.Test.YtdigcbjkobjdmaaMk10
import Derived.Test.YtdigcbjkobjdmaaMe10
import Derived.BigQuiet
namespace Go.Proofs.Ytdigcbjkobjdmaa
open Go.RowKit

def homeM (xs ws : List Int) : Option (Int × Int) := (Mx.home xs ws).map fun k => (Ma.idx xs (ws.getD k 0), (k : Int))
def asideM (xs ws : List Int) : Option (Int × Int) := (Mx.aside xs ws).map fun k => ((k : Int), Ma.idx xs 0)
theorem next_h {xs ws : List Int} {m : Int × Int} (h : homeM xs ws = some m) : Mx.nextM xs ws = some m := by
  unfold homeM at h; unfold Mx.nextM
  cases e : Mx.home xs ws with
  | none => rw [e] at h; cases h
  | some k => rw [e] at h; simpa using h
theorem next_a {xs ws : List Int} (h : homeM xs ws = none) : Mx.nextM xs ws = asideM xs ws := by
  unfold homeM at h; unfold Mx.nextM asideM
  cases e : Mx.home xs ws with
  | some k => rw [e] at h; cases h
  | none =>
    cases Mx.aside xs ws <;> rfl
theorem home_is {xs ws : List Int} {n k : Nat} (hw : ws.length = n) (hk : k < n) (h : Mx.homeAt xs ws k = true) (hj : ∀ j, j < k → Mx.homeAt xs ws j = false) : homeM xs ws = some (Ma.idx xs (ws.getD k 0), (k : Int)) := by
  unfold homeM Mx.home; rw [hw, Mx.find_at hk h hj]; rfl
theorem home_no {xs ws : List Int} {n : Nat} (hw : ws.length = n) (hj : ∀ j, j < n → Mx.homeAt xs ws j = false) : homeM xs ws = none := by
  unfold homeM Mx.home; rw [hw, Mx.find_no hj]; rfl
theorem aside_is {xs ws : List Int} {n k : Nat} (hw : xs.length = n) (hk : k < n) (h : Mx.asideAt xs ws k = true) (hj : ∀ j, j < k → Mx.asideAt xs ws j = false) : asideM xs ws = some ((k : Int), Ma.idx xs 0) := by
  unfold asideM Mx.aside; rw [hw, Mx.find_at hk h hj]; rfl
theorem aside_no {xs ws : List Int} {n : Nat} (hw : xs.length = n) (hj : ∀ j, j < n → Mx.asideAt xs ws j = false) : asideM xs ws = none := by
  unfold asideM Mx.aside; rw [hw, Mx.find_no hj]; rfl
def NmP (w : World) (o : Option (Int × Int)) (e : Ending) (w' : World) : Prop := ∃ F T s, e = .returned (.tuple #[.agg #[.int .i64 F, .int .i64 T], .bool s]) ∧ o = (if s then some (F, T) else none) ∧ Below w.heap.size w w'
set_option maxHeartbeats 4000000 in
theorem mh_any {a b : Option Addr} {n c d : Nat} {xs ws : List Int} {w : World} (hx : xs.length = n) (hy : ws.length = n) (hn : n ≤ 1000) (ha : ARow w a xs) (hbw : ARow w b ws) :
    Calls Try.prog 55 #[.agg #[.slice a n c, .slice b n d]] w (NmP w (homeM xs ws)) := by
  have bW1 := below_new w (.cells #[.slice a n c, .slice b n d] 56)
  have bW2 := below_new (w.alloc (.cells #[.slice a n c, .slice b n d] 56)) (.cells #[.int .i64 0, .int .i64 0] 30)
  have hb := bW1.trans (bW2.mono bW1.size)
  have c0 : ((w.alloc (.cells #[.slice a n c, .slice b n d] 56)).alloc (.cells #[.int .i64 0, .int .i64 0] 30)).cell? ⟨w.heap.size, 0, none⟩ = some (.slice a n c) := by simp
  have c1 : ((w.alloc (.cells #[.slice a n c, .slice b n d] 56)).alloc (.cells #[.int .i64 0, .int .i64 0] 30)).cell? ⟨w.heap.size, 1, none⟩ = some (.slice b n d) := by simp
  have r0 : ((w.alloc (.cells #[.slice a n c, .slice b n d] 56)).alloc (.cells #[.int .i64 0, .int .i64 0] 30)).cell? ⟨w.heap.size + 1, 0, none⟩ = some (.int .i64 0) := by simp
  have r1 : ((w.alloc (.cells #[.slice a n c, .slice b n d] 56)).alloc (.cells #[.int .i64 0, .int .i64 0] 30)).cell? ⟨w.heap.size + 1, 1, none⟩ = some (.int .i64 0) := by simp
  have r2 : ((w.alloc (.cells #[.slice a n c, .slice b n d] 56)).alloc (.cells #[.int .i64 0, .int .i64 0] 30)).frozen? ⟨w.heap.size + 1, 0, none⟩ = false := by simp [go_sem]
  have r3 : ((w.alloc (.cells #[.slice a n c, .slice b n d] 56)).alloc (.cells #[.int .i64 0, .int .i64 0] 30)).frozen? ⟨w.heap.size + 1, 1, none⟩ = false := by simp [go_sem]
  obtain ⟨W2, hW2⟩ : ∃ W, W = (w.alloc (.cells #[.slice a n c, .slice b n d] 56)).alloc (.cells #[.int .i64 0, .int .i64 0] 30) := ⟨_, rfl⟩
  rw [← hW2] at hb c0 c1 r0 r1 r2 r3
  have HA := hide (ha.below hb)
  have HBB := hide (hbw.below hb)
  have HB := hide hb
  have HW2 := hide hW2.symm
  obtain ⟨B, hB⟩ : ∃ B, B = w.heap.size := ⟨_, rfl⟩
  rw [← hB] at c0 c1 r0 r1 r2 r3
  have HBe := hide hB.symm
  have HBS := hide fun (W : World) (h : Below w.heap.size w W) (x y : Value) => ((h.setCell (p := ⟨B + 1, 0, none⟩) (by show w.heap.size ≤ B + 1; omega) x).setCell (p := ⟨B + 1, 1, none⟩) (by show w.heap.size ≤ B + 1; omega) y)
  have HX := hide hx
  have HY := hide hy
  clear bW1 bW2 hb hW2 hB ha hbw hx hy
  go_enter Try.func55, Try.ntmps55
  go_upto_region 1 with fail
  rw [HW2.out, HBe.out]
  clear HW2 HBe
  go_wp2_with fail
  go_loop [3, 4, 5, 9] (fun s3 _ _ s => ∃ k : Nat, s3 = .bool false ∧ s = .int .i64 k ∧ k ≤ n ∧ Hid (∀ j, j < k → Mx.homeAt xs ws j = false)) (fun _ _ _ s => n - (intOf s).toNat)
  case atStart => exact ⟨0, rfl, rfl, Nat.zero_le _, hide fun j hj => absurd hj (Nat.not_lt_zero _)⟩
  case round =>
    obtain ⟨k, rfl, rfl, hk, HK⟩ := hrel
    by_cases hlt : k < n
    · obtain ⟨b1, o1, rfl, q1⟩ := HBB.out.at (i := k) (by rw [HY.out]; exact hlt)
      obtain ⟨b2, o2, rfl, q2⟩ := HA.out.at (i := k) (by rw [HX.out]; exact hlt)
      have i0 : (0 : Int) ≤ (k : Int) := by omega
      have i1 : (k : Int) < (n : Int) := by omega
      have HNX := hide fun (h : Mx.homeAt xs ws k = false) => show ∀ j, j < k + 1 → Mx.homeAt xs ws j = false from fun j hj => by
        by_cases e : j = k
        · subst e; exact h
        · exact HK.out j (by omega)
      have HYS := hide fun (h : Mx.homeAt xs ws k = true) => home_is HY.out hlt h HK.out
      have HDF : Hid (Mx.homeAt xs ws k = ((ws.getD k 0 != 0) && (xs.getD k 0 == 0))) := hide rfl
      have HIX := hide (ix_any (w := W2) (c := c) (x := ws.getD k 0) HX.out (by omega) HA.out)
      generalize Ma.idx xs (ws.getD k 0) = J at *
      generalize ws.getD k 0 = g at *
      generalize xs.getD k 0 = x at *
      cases hg : (g != 0)
      · have H1 := hide (HNX.out (by rw [HDF.out, hg]; rfl))
        go_wp2_with fail
        go_round
        case rel => exact ⟨k + 1, rfl, by go_num, by omega, H1⟩
        case measure => simp only [intOf]; omega
      · cases hx0 : (x == 0)
        · have H1 := hide (HNX.out (by rw [HDF.out, hg, hx0]; rfl))
          go_wp2_with fail
          go_round
          case rel => exact ⟨k + 1, rfl, by go_num, by omega, H1⟩
          case measure => simp only [intOf]; omega
        · have H1 := hide (HYS.out (by rw [HDF.out, hg, hx0]; rfl))
          have HFIN := hide (HBS.out _ HB.out (.int .i64 J) (.int .i64 (k : Int)))
          go_wp2_with fail
          refine HIX.out.mono ?_
          rintro e w3 ⟨rfl, hw3⟩
          obtain rfl : W2 = w3 := hw3.symm
          go_wp2_with fail
          exact bodyPost_ret (v := .tuple #[.agg #[.int .i64 J, .int .i64 (k : Int)], .bool true]) (by simp [results, Try.results55, go_sem, *]) rfl ⟨J, (k : Int), true, rfl, H1.out, HFIN.out⟩
    · have hke : k = n := by omega
      subst hke
      have H1 := hide (home_no HY.out HK.out)
      have HFIN := hide (HBS.out _ HB.out (.int .i64 0) (.int .i64 0))
      go_wp2_with fail
      exact bodyPost_ret (v := .tuple #[.agg #[.int .i64 0, .int .i64 0], .bool false]) (by simp [results, Try.results55, go_sem, *]) rfl ⟨0, 0, false, rfl, H1.out, HFIN.out⟩
set_option maxHeartbeats 4000000 in
theorem ma_any {a b : Option Addr} {n c d : Nat} {xs ws : List Int} {w : World} (hx : xs.length = n) (hy : ws.length = n) (hn : n ≤ 1000) (ha : ARow w a xs) (hbw : ARow w b ws) :
    Calls Try.prog 56 #[.agg #[.slice a n c, .slice b n d]] w (NmP w (asideM xs ws)) := by
  have bW1 := below_new w (.cells #[.slice a n c, .slice b n d] 56)
  have bW2 := below_new (w.alloc (.cells #[.slice a n c, .slice b n d] 56)) (.cells #[.int .i64 0, .int .i64 0] 30)
  have hb := bW1.trans (bW2.mono bW1.size)
  have c0 : ((w.alloc (.cells #[.slice a n c, .slice b n d] 56)).alloc (.cells #[.int .i64 0, .int .i64 0] 30)).cell? ⟨w.heap.size, 0, none⟩ = some (.slice a n c) := by simp
  have c1 : ((w.alloc (.cells #[.slice a n c, .slice b n d] 56)).alloc (.cells #[.int .i64 0, .int .i64 0] 30)).cell? ⟨w.heap.size, 1, none⟩ = some (.slice b n d) := by simp
  have r0 : ((w.alloc (.cells #[.slice a n c, .slice b n d] 56)).alloc (.cells #[.int .i64 0, .int .i64 0] 30)).cell? ⟨w.heap.size + 1, 0, none⟩ = some (.int .i64 0) := by simp
  have r1 : ((w.alloc (.cells #[.slice a n c, .slice b n d] 56)).alloc (.cells #[.int .i64 0, .int .i64 0] 30)).cell? ⟨w.heap.size + 1, 1, none⟩ = some (.int .i64 0) := by simp
  have r2 : ((w.alloc (.cells #[.slice a n c, .slice b n d] 56)).alloc (.cells #[.int .i64 0, .int .i64 0] 30)).frozen? ⟨w.heap.size + 1, 0, none⟩ = false := by simp [go_sem]
  have r3 : ((w.alloc (.cells #[.slice a n c, .slice b n d] 56)).alloc (.cells #[.int .i64 0, .int .i64 0] 30)).frozen? ⟨w.heap.size + 1, 1, none⟩ = false := by simp [go_sem]
  obtain ⟨W2, hW2⟩ : ∃ W, W = (w.alloc (.cells #[.slice a n c, .slice b n d] 56)).alloc (.cells #[.int .i64 0, .int .i64 0] 30) := ⟨_, rfl⟩
  rw [← hW2] at hb c0 c1 r0 r1 r2 r3
  have HA := hide (ha.below hb)
  have HBB := hide (hbw.below hb)
  have HB := hide hb
  have HW2 := hide hW2.symm
  obtain ⟨B, hB⟩ : ∃ B, B = w.heap.size := ⟨_, rfl⟩
  rw [← hB] at c0 c1 r0 r1 r2 r3
  have HBe := hide hB.symm
  have HBS := hide fun (W : World) (h : Below w.heap.size w W) (x y : Value) => ((h.setCell (p := ⟨B + 1, 0, none⟩) (by show w.heap.size ≤ B + 1; omega) x).setCell (p := ⟨B + 1, 1, none⟩) (by show w.heap.size ≤ B + 1; omega) y)
  have HX := hide hx
  have HY := hide hy
  clear bW1 bW2 hb hW2 hB ha hbw hx hy
  go_enter Try.func56, Try.ntmps56
  go_upto_region 1 with fail
  rw [HW2.out, HBe.out]
  clear HW2 HBe
  go_wp2_with fail
  go_loopw [3, 4, 8] (fun s3 _ s wr => ∃ (k q : Nat), s3 = .bool false ∧ s = .int .i64 k ∧ k ≤ n ∧ Hid (∀ j, j < k → Mx.asideAt xs ws j = false) ∧ wr = W2.drewN q) (fun _ _ s _ => n - (intOf s).toNat)
  case atStart => exact ⟨0, 0, rfl, rfl, Nat.zero_le _, hide fun j hj => absurd hj (Nat.not_lt_zero _), rfl⟩
  case round =>
    obtain ⟨k, q, rfl, rfl, hk, HK, rfl⟩ := hrel
    by_cases hlt : k < n
    · obtain ⟨b1, o1, rfl, q1⟩ := HBB.out.at (i := k) (by rw [HY.out]; exact hlt)
      obtain ⟨b2, o2, rfl, q2⟩ := HA.out.at (i := k) (by rw [HX.out]; exact hlt)
      have i0 : (0 : Int) ≤ (k : Int) := by omega
      have i1 : (k : Int) < (n : Int) := by omega
      have HNX := hide fun (h : Mx.asideAt xs ws k = false) => show ∀ j, j < k + 1 → Mx.asideAt xs ws j = false from fun j hj => by
        by_cases e : j = k
        · subst e; exact h
        · exact HK.out j (by omega)
      have HYS := hide fun (h : Mx.asideAt xs ws k = true) => aside_is HX.out hlt h HK.out
      have HDF : Hid (Mx.asideAt xs ws k = (xs.getD k 0 != ws.getD k 0)) := hide rfl
      have HIX := hide fun (W : World) (h : ARow W (some ⟨b2, o2, none⟩) xs) => ix_any (w := W) (c := c) (x := 0) HX.out (by omega) h
      generalize Ma.idx xs 0 = J at *
      generalize ws.getD k 0 = g at *
      generalize xs.getD k 0 = x at *
      cases hg : (x != g)
      · have H1 := hide (HNX.out (by rw [HDF.out, hg]))
        go_wp2_with fail
        go_quiet (fail)
        go_wp2_with fail
        go_roundw
        case rel => exact ⟨k + 1, q + nq, rfl, by go_num, by omega, H1, rfl⟩
        case measure => simp only [intOf]; omega
      · have H1 := hide (HYS.out (by rw [HDF.out, hg]))
        go_wp2_with fail
        go_quiet (fail)
        have k0 : ((W2.drewN q).drewN nq).cell? ⟨B, 0, none⟩ = some _ := c0
        have k2 : ((W2.drewN q).drewN nq).cell? ⟨B + 1, 0, none⟩ = some _ := r0
        have k3 : ((W2.drewN q).drewN nq).cell? ⟨B + 1, 1, none⟩ = some _ := r1
        have k4 : ((W2.drewN q).drewN nq).frozen? ⟨B + 1, 0, none⟩ = false := r2
        have k5 : ((W2.drewN q).drewN nq).frozen? ⟨B + 1, 1, none⟩ = false := r3
        have HFI2 := hide (HBS.out _ (below_drewN (below_drewN HB.out q) nq) (.int .i64 (k : Int)) (.int .i64 J))
        have HIZ := hide (HIX.out ((W2.drewN q).drewN nq) (show ARow ((W2.drewN q).drewN nq) _ xs from HA.out))
        generalize (W2.drewN q).drewN nq = W3 at *
        go_wp2_with fail
        refine HIZ.out.mono ?_
        rintro e w3 ⟨rfl, hw3⟩
        obtain rfl : W3 = w3 := hw3.symm
        go_wp2_with fail
        exact bodyPost_ret (v := .tuple #[.agg #[.int .i64 (k : Int), .int .i64 J], .bool true]) (by simp [results, Try.results56, go_sem, *]) rfl ⟨(k : Int), J, true, rfl, H1.out, HFI2.out⟩
    · have hke : k = n := by omega
      subst hke
      have H1 := hide (aside_no HX.out HK.out)
      have HFIN := hide (HBS.out _ (below_drewN HB.out q) (.int .i64 0) (.int .i64 0))
      go_wp2_with fail
      exact bodyPost_ret (v := .tuple #[.agg #[.int .i64 0, .int .i64 0], .bool false]) (by simp [results, Try.results56, go_sem, *]) rfl ⟨0, 0, false, rfl, H1.out, HFIN.out⟩
end Go.Proofs.Ytdigcbjkobjdmaa
