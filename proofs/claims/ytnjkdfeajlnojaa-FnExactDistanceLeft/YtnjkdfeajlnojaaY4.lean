/-
  In one: Ml10, Nd10, Ne10, Nf10, Ng10, Kk16, Op, Of10, Oj16.
-/
import Derived.Test.YtnjkdfeajlnojaaY3
import Derived.Test.YtnjkdfeajlnojaaY1
import Derived.BigQuiet
import Derived.Deep.LoopGhost
import Derived.Test.YtnjkdfeajlnojaaY2
import Derived.ChangeSlices
import Derived.ProofKit
import Derived.OpenShut
import Derived.ChangeOld
import Derived.Below
import Derived.Deep.SlicePairs
namespace Go.Proofs.Ytnjkdfeajlnojaa
open Go.RowKit

def homeM (xs ws : List Int) : Option (Int × Int) := (Mx.home xs ws).map fun k => (Ma.idx xs (ws.getD k 0), (k : Int))
def asideM (xs ws : List Int) : Option (Int × Int) := (Mx.aside xs ws).map fun k => ((k : Int), Ma.idx xs 0)
theorem next_h {xs ws : List Int} {m : Int × Int} (h : homeM xs ws = some m) : Mx.nextM xs ws = some m := by
  unfold homeM at h; unfold Mx.nextM
  cases e : Mx.home xs ws with
  | none => rw [e] at h; cases h
  | some k => rw [e] at h; simpa using h
theorem next_a {xs ws : List Int} (h : homeM xs ws = none) : Mx.nextM xs ws = asideM xs ws := by
  unfold homeM at h; unfold Mx.nextM asideM
  cases e : Mx.home xs ws with
  | some k => rw [e] at h; cases h
  | none =>
    cases Mx.aside xs ws <;> rfl
theorem home_is {xs ws : List Int} {n k : Nat} (hw : ws.length = n) (hk : k < n) (h : Mx.homeAt xs ws k = true) (hj : ∀ j, j < k → Mx.homeAt xs ws j = false) : homeM xs ws = some (Ma.idx xs (ws.getD k 0), (k : Int)) := by
  unfold homeM Mx.home; rw [hw, Mx.find_at hk h hj]; rfl
theorem home_no {xs ws : List Int} {n : Nat} (hw : ws.length = n) (hj : ∀ j, j < n → Mx.homeAt xs ws j = false) : homeM xs ws = none := by
  unfold homeM Mx.home; rw [hw, Mx.find_no hj]; rfl
theorem aside_is {xs ws : List Int} {n k : Nat} (hw : xs.length = n) (hk : k < n) (h : Mx.asideAt xs ws k = true) (hj : ∀ j, j < k → Mx.asideAt xs ws j = false) : asideM xs ws = some ((k : Int), Ma.idx xs 0) := by
  unfold asideM Mx.aside; rw [hw, Mx.find_at hk h hj]; rfl
theorem aside_no {xs ws : List Int} {n : Nat} (hw : xs.length = n) (hj : ∀ j, j < n → Mx.asideAt xs ws j = false) : asideM xs ws = none := by
  unfold asideM Mx.aside; rw [hw, Mx.find_no hj]; rfl
def NmP (w : World) (o : Option (Int × Int)) (e : Ending) (w' : World) : Prop := ∃ F T s, e = .returned (.tuple #[.agg #[.int .i64 F, .int .i64 T], .bool s]) ∧ o = (if s then some (F, T) else none) ∧ Below w.heap.size w w'
set_option maxHeartbeats 4000000 in
theorem mh_any {a b : Option Addr} {n c d : Nat} {xs ws : List Int} {w : World} (hx : xs.length = n) (hy : ws.length = n) (hn : n ≤ 1000) (ha : ARow w a xs) (hbw : ARow w b ws) :
    Calls Try.prog 79 #[.agg #[.slice a n c, .slice b n d]] w (NmP w (homeM xs ws)) := by
  have bW1 := below_new w (.cells #[.slice a n c, .slice b n d] 75)
  have bW2 := below_new (w.alloc (.cells #[.slice a n c, .slice b n d] 75)) (.cells #[.int .i64 0, .int .i64 0] 41)
  have hb := bW1.trans (bW2.mono bW1.size)
  have c0 : ((w.alloc (.cells #[.slice a n c, .slice b n d] 75)).alloc (.cells #[.int .i64 0, .int .i64 0] 41)).cell? ⟨w.heap.size, 0, none⟩ = some (.slice a n c) := by simp
  have c1 : ((w.alloc (.cells #[.slice a n c, .slice b n d] 75)).alloc (.cells #[.int .i64 0, .int .i64 0] 41)).cell? ⟨w.heap.size, 1, none⟩ = some (.slice b n d) := by simp
  have r0 : ((w.alloc (.cells #[.slice a n c, .slice b n d] 75)).alloc (.cells #[.int .i64 0, .int .i64 0] 41)).cell? ⟨w.heap.size + 1, 0, none⟩ = some (.int .i64 0) := by simp
  have r1 : ((w.alloc (.cells #[.slice a n c, .slice b n d] 75)).alloc (.cells #[.int .i64 0, .int .i64 0] 41)).cell? ⟨w.heap.size + 1, 1, none⟩ = some (.int .i64 0) := by simp
  have r2 : ((w.alloc (.cells #[.slice a n c, .slice b n d] 75)).alloc (.cells #[.int .i64 0, .int .i64 0] 41)).frozen? ⟨w.heap.size + 1, 0, none⟩ = false := by simp [go_sem]
  have r3 : ((w.alloc (.cells #[.slice a n c, .slice b n d] 75)).alloc (.cells #[.int .i64 0, .int .i64 0] 41)).frozen? ⟨w.heap.size + 1, 1, none⟩ = false := by simp [go_sem]
  obtain ⟨W2, hW2⟩ : ∃ W, W = (w.alloc (.cells #[.slice a n c, .slice b n d] 75)).alloc (.cells #[.int .i64 0, .int .i64 0] 41) := ⟨_, rfl⟩
  rw [← hW2] at hb c0 c1 r0 r1 r2 r3
  have HA := hide (ha.below hb)
  have HBB := hide (hbw.below hb)
  have HB := hide hb
  have HW2 := hide hW2.symm
  obtain ⟨B, hB⟩ : ∃ B, B = w.heap.size := ⟨_, rfl⟩
  rw [← hB] at c0 c1 r0 r1 r2 r3
  have HBe := hide hB.symm
  have HBS := hide fun (W : World) (h : Below w.heap.size w W) (x y : Value) => ((h.setCell (p := ⟨B + 1, 0, none⟩) (by show w.heap.size ≤ B + 1; omega) x).setCell (p := ⟨B + 1, 1, none⟩) (by show w.heap.size ≤ B + 1; omega) y)
  have HX := hide hx
  have HY := hide hy
  clear bW1 bW2 hb hW2 hB ha hbw hx hy
  go_enter Try.func79, Try.ntmps79
  go_upto_region 1 with fail
  rw [HW2.out, HBe.out]
  clear HW2 HBe
  go_wp2_with fail
  go_loop [3, 4, 5, 9] (fun s3 _ _ s => ∃ k : Nat, s3 = .bool false ∧ s = .int .i64 k ∧ k ≤ n ∧ Hid (∀ j, j < k → Mx.homeAt xs ws j = false)) (fun _ _ _ s => n - (intOf s).toNat)
  case atStart => exact ⟨0, rfl, rfl, Nat.zero_le _, hide fun j hj => absurd hj (Nat.not_lt_zero _)⟩
  case round =>
    obtain ⟨k, rfl, rfl, hk, HK⟩ := hrel
    by_cases hlt : k < n
    · obtain ⟨b1, o1, rfl, q1⟩ := HBB.out.at (i := k) (by rw [HY.out]; exact hlt)
      obtain ⟨b2, o2, rfl, q2⟩ := HA.out.at (i := k) (by rw [HX.out]; exact hlt)
      have i0 : (0 : Int) ≤ (k : Int) := by omega
      have i1 : (k : Int) < (n : Int) := by omega
      have HNX := hide fun (h : Mx.homeAt xs ws k = false) => show ∀ j, j < k + 1 → Mx.homeAt xs ws j = false from fun j hj => by
        by_cases e : j = k
        · subst e; exact h
        · exact HK.out j (by omega)
      have HYS := hide fun (h : Mx.homeAt xs ws k = true) => home_is HY.out hlt h HK.out
      have HDF : Hid (Mx.homeAt xs ws k = ((ws.getD k 0 != 0) && (xs.getD k 0 == 0))) := hide rfl
      have HIX := hide (ix_any (w := W2) (c := c) (x := ws.getD k 0) HX.out (by omega) HA.out)
      generalize Ma.idx xs (ws.getD k 0) = J at *
      generalize ws.getD k 0 = g at *
      generalize xs.getD k 0 = x at *
      cases hg : (g != 0)
      · have H1 := hide (HNX.out (by rw [HDF.out, hg]; rfl))
        go_wp2_with fail
        go_round
        case rel => exact ⟨k + 1, rfl, by go_num, by omega, H1⟩
        case measure => simp only [intOf]; omega
      · cases hx0 : (x == 0)
        · have H1 := hide (HNX.out (by rw [HDF.out, hg, hx0]; rfl))
          go_wp2_with fail
          go_round
          case rel => exact ⟨k + 1, rfl, by go_num, by omega, H1⟩
          case measure => simp only [intOf]; omega
        · have H1 := hide (HYS.out (by rw [HDF.out, hg, hx0]; rfl))
          have HFIN := hide (HBS.out _ HB.out (.int .i64 J) (.int .i64 (k : Int)))
          go_wp2_with fail
          refine HIX.out.mono ?_
          rintro e w3 ⟨rfl, hw3⟩
          obtain rfl : W2 = w3 := hw3.symm
          go_wp2_with fail
          exact bodyPost_ret (v := .tuple #[.agg #[.int .i64 J, .int .i64 (k : Int)], .bool true]) (by simp [results, Try.results79, go_sem, *]) rfl ⟨J, (k : Int), true, rfl, H1.out, HFIN.out⟩
    · have hke : k = n := by omega
      subst hke
      have H1 := hide (home_no HY.out HK.out)
      have HFIN := hide (HBS.out _ HB.out (.int .i64 0) (.int .i64 0))
      go_wp2_with fail
      exact bodyPost_ret (v := .tuple #[.agg #[.int .i64 0, .int .i64 0], .bool false]) (by simp [results, Try.results79, go_sem, *]) rfl ⟨0, 0, false, rfl, H1.out, HFIN.out⟩
set_option maxHeartbeats 4000000 in
theorem ma_any {a b : Option Addr} {n c d : Nat} {xs ws : List Int} {w : World} (hx : xs.length = n) (hy : ws.length = n) (hn : n ≤ 1000) (ha : ARow w a xs) (hbw : ARow w b ws) :
    Calls Try.prog 80 #[.agg #[.slice a n c, .slice b n d]] w (NmP w (asideM xs ws)) := by
  have bW1 := below_new w (.cells #[.slice a n c, .slice b n d] 75)
  have bW2 := below_new (w.alloc (.cells #[.slice a n c, .slice b n d] 75)) (.cells #[.int .i64 0, .int .i64 0] 41)
  have hb := bW1.trans (bW2.mono bW1.size)
  have c0 : ((w.alloc (.cells #[.slice a n c, .slice b n d] 75)).alloc (.cells #[.int .i64 0, .int .i64 0] 41)).cell? ⟨w.heap.size, 0, none⟩ = some (.slice a n c) := by simp
  have c1 : ((w.alloc (.cells #[.slice a n c, .slice b n d] 75)).alloc (.cells #[.int .i64 0, .int .i64 0] 41)).cell? ⟨w.heap.size, 1, none⟩ = some (.slice b n d) := by simp
  have r0 : ((w.alloc (.cells #[.slice a n c, .slice b n d] 75)).alloc (.cells #[.int .i64 0, .int .i64 0] 41)).cell? ⟨w.heap.size + 1, 0, none⟩ = some (.int .i64 0) := by simp
  have r1 : ((w.alloc (.cells #[.slice a n c, .slice b n d] 75)).alloc (.cells #[.int .i64 0, .int .i64 0] 41)).cell? ⟨w.heap.size + 1, 1, none⟩ = some (.int .i64 0) := by simp
  have r2 : ((w.alloc (.cells #[.slice a n c, .slice b n d] 75)).alloc (.cells #[.int .i64 0, .int .i64 0] 41)).frozen? ⟨w.heap.size + 1, 0, none⟩ = false := by simp [go_sem]
  have r3 : ((w.alloc (.cells #[.slice a n c, .slice b n d] 75)).alloc (.cells #[.int .i64 0, .int .i64 0] 41)).frozen? ⟨w.heap.size + 1, 1, none⟩ = false := by simp [go_sem]
  obtain ⟨W2, hW2⟩ : ∃ W, W = (w.alloc (.cells #[.slice a n c, .slice b n d] 75)).alloc (.cells #[.int .i64 0, .int .i64 0] 41) := ⟨_, rfl⟩
  rw [← hW2] at hb c0 c1 r0 r1 r2 r3
  have HA := hide (ha.below hb)
  have HBB := hide (hbw.below hb)
  have HB := hide hb
  have HW2 := hide hW2.symm
  obtain ⟨B, hB⟩ : ∃ B, B = w.heap.size := ⟨_, rfl⟩
  rw [← hB] at c0 c1 r0 r1 r2 r3
  have HBe := hide hB.symm
  have HBS := hide fun (W : World) (h : Below w.heap.size w W) (x y : Value) => ((h.setCell (p := ⟨B + 1, 0, none⟩) (by show w.heap.size ≤ B + 1; omega) x).setCell (p := ⟨B + 1, 1, none⟩) (by show w.heap.size ≤ B + 1; omega) y)
  have HX := hide hx
  have HY := hide hy
  clear bW1 bW2 hb hW2 hB ha hbw hx hy
  go_enter Try.func80, Try.ntmps80
  go_upto_region 1 with fail
  rw [HW2.out, HBe.out]
  clear HW2 HBe
  go_wp2_with fail
  go_loopw [3, 4, 8] (fun s3 _ s wr => ∃ (k q : Nat), s3 = .bool false ∧ s = .int .i64 k ∧ k ≤ n ∧ Hid (∀ j, j < k → Mx.asideAt xs ws j = false) ∧ wr = W2.drewN q) (fun _ _ s _ => n - (intOf s).toNat)
  case atStart => exact ⟨0, 0, rfl, rfl, Nat.zero_le _, hide fun j hj => absurd hj (Nat.not_lt_zero _), rfl⟩
  case round =>
    obtain ⟨k, q, rfl, rfl, hk, HK, rfl⟩ := hrel
    by_cases hlt : k < n
    · obtain ⟨b1, o1, rfl, q1⟩ := HBB.out.at (i := k) (by rw [HY.out]; exact hlt)
      obtain ⟨b2, o2, rfl, q2⟩ := HA.out.at (i := k) (by rw [HX.out]; exact hlt)
      have i0 : (0 : Int) ≤ (k : Int) := by omega
      have i1 : (k : Int) < (n : Int) := by omega
      have HNX := hide fun (h : Mx.asideAt xs ws k = false) => show ∀ j, j < k + 1 → Mx.asideAt xs ws j = false from fun j hj => by
        by_cases e : j = k
        · subst e; exact h
        · exact HK.out j (by omega)
      have HYS := hide fun (h : Mx.asideAt xs ws k = true) => aside_is HX.out hlt h HK.out
      have HDF : Hid (Mx.asideAt xs ws k = (xs.getD k 0 != ws.getD k 0)) := hide rfl
      have HIX := hide fun (W : World) (h : ARow W (some ⟨b2, o2, none⟩) xs) => ix_any (w := W) (c := c) (x := 0) HX.out (by omega) h
      generalize Ma.idx xs 0 = J at *
      generalize ws.getD k 0 = g at *
      generalize xs.getD k 0 = x at *
      cases hg : (x != g)
      · have H1 := hide (HNX.out (by rw [HDF.out, hg]))
        go_wp2_with fail
        go_quiet (fail)
        go_wp2_with fail
        go_roundw
        case rel => exact ⟨k + 1, q + nq, rfl, by go_num, by omega, H1, rfl⟩
        case measure => simp only [intOf]; omega
      · have H1 := hide (HYS.out (by rw [HDF.out, hg]))
        go_wp2_with fail
        go_quiet (fail)
        have k0 : ((W2.drewN q).drewN nq).cell? ⟨B, 0, none⟩ = some _ := c0
        have k2 : ((W2.drewN q).drewN nq).cell? ⟨B + 1, 0, none⟩ = some _ := r0
        have k3 : ((W2.drewN q).drewN nq).cell? ⟨B + 1, 1, none⟩ = some _ := r1
        have k4 : ((W2.drewN q).drewN nq).frozen? ⟨B + 1, 0, none⟩ = false := r2
        have k5 : ((W2.drewN q).drewN nq).frozen? ⟨B + 1, 1, none⟩ = false := r3
        have HFI2 := hide (HBS.out _ (below_drewN (below_drewN HB.out q) nq) (.int .i64 (k : Int)) (.int .i64 J))
        have HIZ := hide (HIX.out ((W2.drewN q).drewN nq) (show ARow ((W2.drewN q).drewN nq) _ xs from HA.out))
        generalize (W2.drewN q).drewN nq = W3 at *
        go_wp2_with fail
        refine HIZ.out.mono ?_
        rintro e w3 ⟨rfl, hw3⟩
        obtain rfl : W3 = w3 := hw3.symm
        go_wp2_with fail
        exact bodyPost_ret (v := .tuple #[.agg #[.int .i64 (k : Int), .int .i64 J], .bool true]) (by simp [results, Try.results80, go_sem, *]) rfl ⟨(k : Int), J, true, rfl, H1.out, HFI2.out⟩
    · have hke : k = n := by omega
      subst hke
      have H1 := hide (aside_no HX.out HK.out)
      have HFIN := hide (HBS.out _ (below_drewN HB.out q) (.int .i64 0) (.int .i64 0))
      go_wp2_with fail
      exact bodyPost_ret (v := .tuple #[.agg #[.int .i64 0, .int .i64 0], .bool false]) (by simp [results, Try.results80, go_sem, *]) rfl ⟨0, 0, false, rfl, H1.out, HFIN.out⟩
end Go.Proofs.Ytnjkdfeajlnojaa
namespace Go.Proofs.Ytnjkdfeajlnojaa
open Go.RowKit

set_option maxHeartbeats 4000000 in
theorem ie_any {a b : Option Addr} {n k c d : Nat} {xs ws : List Int} {w : World} (hx : xs.length = n) (hy : ws.length = n) (hk : k < n) (ha : ARow w a xs) (hbw : ARow w b ws) :
    Calls Try.prog 92 #[.agg #[.slice a n c, .slice b n d], .int .i64 (k : Int)] w fun e w' => e = .returned (.bool ((xs.getD k 0 != 0) && (xs.getD k 0 != ws.getD k 0))) ∧ Below w.heap.size w w' := by
  have hb := below_new w (.cells #[.slice a n c, .slice b n d] 75)
  have c0 : (w.alloc (.cells #[.slice a n c, .slice b n d] 75)).cell? ⟨w.heap.size, 0, none⟩ = some (.slice a n c) := by simp
  have c1 : (w.alloc (.cells #[.slice a n c, .slice b n d] 75)).cell? ⟨w.heap.size, 1, none⟩ = some (.slice b n d) := by simp
  obtain ⟨W2, hW2⟩ : ∃ W, W = w.alloc (.cells #[.slice a n c, .slice b n d] 75) := ⟨_, rfl⟩
  rw [← hW2] at hb c0 c1
  obtain ⟨b1, o1, rfl, q1⟩ := (hbw.below hb).at (i := k) (by rw [hy]; exact hk)
  obtain ⟨b2, o2, rfl, q2⟩ := (ha.below hb).at (i := k) (by rw [hx]; exact hk)
  have HB := hide hb
  have HBQ := hide fun (q : Nat) => below_drewN hb q
  have HW2 := hide hW2.symm
  obtain ⟨B, hB⟩ : ∃ B, B = w.heap.size := ⟨_, rfl⟩
  rw [← hB] at c0 c1
  have HBe := hide hB.symm
  have i0 : (0 : Int) ≤ (k : Int) := by omega
  have i1 : (k : Int) < (n : Int) := by omega
  clear hb hW2 hB ha hbw hx hy
  generalize ws.getD k 0 = g at *
  generalize xs.getD k 0 = x at *
  go_enter Try.func92, Try.ntmps92
  go_upto_region 1 with fail
  rw [HW2.out, HBe.out]
  clear HW2 HBe
  cases h0 : (x != 0)
  · go_wp2_with fail
    go_quiet (fail)
    go_wp2_with fail
    go_ret
    exact ⟨by rw [h0]; rfl, HBQ.out _⟩
  · cases h1 : (x != g)
    · go_wp2_with fail
      go_quiet (fail)
      go_wp2_with fail
      go_ret
      exact ⟨by rw [h0, h1]; rfl, HBQ.out _⟩
    · go_wp2_with fail
      go_quiet (fail)
      go_wp2_with fail
      go_ret
      exact ⟨by rw [h0, h1]; rfl, HBQ.out _⟩
theorem idx_nxt {xs ws : List Int} {n p : Nat} (hy : ws.length = n) (h2 : Mv.Two n (Mx.fn xs) (Mx.fn ws)) (hp : p < n) (ha : Mv.Away (Mx.fn xs) (Mx.fn ws) p) : ∃ q : Nat, Mv.nxt n (Mx.fn xs) (Mx.fn ws) p = some q ∧ Ma.idx ws (xs.getD p 0) = (q : Int) ∧ q < n := by
  obtain ⟨j, hj, ej⟩ := h2.ab p hp ha.1
  obtain ⟨f, e1, hf, e2⟩ := Mx.idx_is hy hj ej
  refine ⟨f, ?_, e1, hf⟩
  rw [Mv.nxt_of hp ha, Mv.spot_uniq h2.sb hf ha.1 e2]
/-- How a walk from k stands, and how it goes on. -/
structure BR (n k K gk t p : Nat) (xs ws : List Int) : Prop where
  bw : Mv.Bw (Mv.nxt n (Mx.fn xs) (Mx.fn ws)) k t p
  lt : p < n
  sum : t + gk = K
theorem br_start {xs ws : List Int} {n k : Nat} (hy : ws.length = n) (h2 : Mv.Two n (Mx.fn xs) (Mx.fn ws)) (hk : k < n) (ha : Mv.Away (Mx.fn xs) (Mx.fn ws) k) : ∃ K gk q : Nat, (∀ x, Mv.it (Mv.nxt n (Mx.fn xs) (Mx.fn ws)) K k = some x → (0 < K ∧ x = k) ∨ Mv.nxt n (Mx.fn xs) (Mx.fn ws) x = none) ∧ Ma.idx ws (xs.getD k 0) = (q : Int) ∧ BR n k K gk 1 q xs ws := by
  obtain ⟨K, hK⟩ := Mv.stop_of (n := n) (Mv.nxt_inj h2) (fun i x e => (Mv.nxt_some e).1) k
  obtain ⟨q, e1, e2, hq⟩ := idx_nxt hy h2 hk ha
  have h0 : 0 < K := by
    apply Nat.pos_of_ne_zero
    rintro rfl
    rcases hK k rfl with ⟨h, _⟩ | h
    · omega
    · rw [e1] at h; cases h
  exact ⟨K, K - 1, q, hK, e2, Mv.Bw.start e1, hq, by omega⟩
theorem br_step {xs ws : List Int} {n k K gk t p : Nat} (hy : ws.length = n) (h2 : Mv.Two n (Mx.fn xs) (Mx.fn ws)) (hK : ∀ x, Mv.it (Mv.nxt n (Mx.fn xs) (Mx.fn ws)) K k = some x → (0 < K ∧ x = k) ∨ Mv.nxt n (Mx.fn xs) (Mx.fn ws) x = none) (h : BR n k K gk t p xs ws) (hp : k < p) (h0 : xs.getD p 0 ≠ 0) : ∃ q : Nat, Ma.idx ws (xs.getD p 0) = (q : Int) ∧ 0 < gk ∧ BR n k K (gk - 1) (t + 1) q xs ws := by
  obtain ⟨t', rfl⟩ : ∃ t', t = t' + 1 := ⟨t - 1, by have := h.bw.pos; omega⟩
  obtain ⟨a, _, ha⟩ := Mv.it_prev h.bw.now
  have haw := Mv.away_to h2 ha h0
  obtain ⟨q, e1, e2, hq⟩ := idx_nxt hy h2 h.lt haw
  have hs := h.sum
  have hg : 0 < gk := by
    apply Nat.pos_of_ne_zero
    rintro rfl
    rcases hK p (by rw [← hs]; exact h.bw.now) with ⟨_, e⟩ | e
    · omega
    · rw [e1] at e; cases e
  exact ⟨q, e2, hg, h.bw.step hp e1, hq, by omega⟩
theorem br_end {xs ws : List Int} {n k K gk t p : Nat} (h : BR n k K gk t p xs ws) (hp : ¬ k < p) : (((p : Int) == (k : Int)) = true) ↔ Mv.Lead (Mv.nxt n (Mx.fn xs) (Mx.fn ws)) k := by
  by_cases e : p = k
  · subst e; simp; exact h.bw.yes
  · have h1 : ¬ ((p : Int) == (k : Int)) = true := by simp; omega
    exact ⟨fun h' => absurd h' h1, fun h' => absurd h' (h.bw.low (by omega))⟩
theorem br_out {xs ws : List Int} {n k K gk t p : Nat} (h : BR n k K gk t p xs ws) (hp : k < p) (h0 : xs.getD p 0 = 0) : (((p : Int) == (k : Int)) = true) ↔ Mv.Lead (Mv.nxt n (Mx.fn xs) (Mx.fn ws)) k := by
  have h1 : ¬ ((p : Int) == (k : Int)) = true := by simp; omega
  refine ⟨fun h' => absurd h' h1, fun h' => absurd h' (h.bw.out (Mv.nxt_none fun e => ?_))⟩
  have h2 : 0 < xs.getD p 0 := e.2.1
  omega
set_option maxHeartbeats 4000000 in
theorem br_any {a b : Option Addr} {n k c d : Nat} {xs ws : List Int} {w : World} (hx : xs.length = n) (hy : ws.length = n) (hk : k < n) (hn : n ≤ 1000) (h2 : Mv.Two n (Mx.fn xs) (Mx.fn ws)) (haw : Mv.Away (Mx.fn xs) (Mx.fn ws) k) (ha : ARow w a xs) (hbw : ARow w b ws) :
    Calls Try.prog 93 #[.agg #[.slice a n c, .slice b n d], .int .i64 (k : Int)] w fun e w' => ∃ r : Bool, e = .returned (.bool r) ∧ (r = true ↔ Mv.Lead (Mv.nxt n (Mx.fn xs) (Mx.fn ws)) k) ∧ Below w.heap.size w w' := by
  have hb := below_new w (.cells #[.slice a n c, .slice b n d] 75)
  have c0 : (w.alloc (.cells #[.slice a n c, .slice b n d] 75)).cell? ⟨w.heap.size, 0, none⟩ = some (.slice a n c) := by simp
  have c1 : (w.alloc (.cells #[.slice a n c, .slice b n d] 75)).cell? ⟨w.heap.size, 1, none⟩ = some (.slice b n d) := by simp
  obtain ⟨W2, hW2⟩ : ∃ W, W = w.alloc (.cells #[.slice a n c, .slice b n d] 75) := ⟨_, rfl⟩
  rw [← hW2] at hb c0 c1
  obtain ⟨b2, o2, rfl, q2⟩ := (ha.below hb).at (i := k) (by rw [hx]; exact hk)
  have HA := hide (ha.below hb)
  have HX := hide hx
  have HBQ := hide fun (q : Nat) => below_drewN hb q
  have hrow := hbw.below hb
  have HIX := hide fun (q : Nat) (x : Int) => ix_any (w := W2.drewN q) (c := d) (x := x) hy (by omega) (show ARow (W2.drewN q) b ws from hrow)
  obtain ⟨K, gk0, p0, hK, e0, hbr⟩ := br_start hy h2 hk haw
  have HK := hide hK
  have HR := hide hbr
  have HY := hide hy
  have HT := hide h2
  have HW2 := hide hW2.symm
  obtain ⟨B, hB⟩ : ∃ B, B = w.heap.size := ⟨_, rfl⟩
  rw [← hB] at c0 c1
  have HBe := hide hB.symm
  have i0 : (0 : Int) ≤ (k : Int) := by omega
  have i1 : (k : Int) < (n : Int) := by omega
  have HI0 := HIX.out 0 (xs.getD k 0)
  rw [e0] at HI0
  have HIF := hide fun (q : Nat) => (e0 ▸ HIX.out q (xs.getD k 0) : Calls Try.prog 94 #[.slice b n d, .int .i64 (xs.getD k 0)] (W2.drewN q) fun e w' => e = .returned (.int .i64 (p0 : Int)) ∧ w' = W2.drewN q)
  clear hb hW2 hB ha hbw hx hy hrow hK hbr HI0 e0 h2 haw
  go_enter Try.func93, Try.ntmps93
  go_upto_region 1 with fail
  rw [HW2.out, HBe.out]
  clear HW2 HBe
  generalize xs.getD k 0 = x0 at *
  go_wp2_with fail
  go_quiet ((go_at_call 94; exact Calls.quiet_of_same (HIF.out _)))
  go_wp2_with fail
  go_loopg [5] gk0 (fun gk s5 wr => ∃ (p t q : Nat), s5 = .int .i64 p ∧ Hid (BR n k K gk t p xs ws) ∧ wr = W2.drewN q)
  case atStart => exact ⟨p0, 1, _, rfl, HR, rfl⟩
  case round =>
    obtain ⟨p, t, q, rfl, HR1, rfl⟩ := hrel
    have hpn := HR1.out.lt
    have j0 : (0 : Int) ≤ (p : Int) := by omega
    have j1 : (p : Int) < (n : Int) := by omega
    have q3 : W2.cell? ⟨b2, o2 + p, none⟩ = some (.int .i64 (xs.getD p 0)) := by
      obtain ⟨_, _, e, q⟩ := HA.out.at (i := p) (by rw [HX.out]; exact hpn)
      cases e; exact q
    by_cases hkp : k < p
    · have hkp' : (k : Int) < (p : Int) := by omega
      by_cases h0 : xs.getD p 0 = 0
      · have HE := hide (br_out HR1.out hkp h0)
        rw [h0] at q3
        clear h0
        go_wp2_with fail
        go_ret
        exact ⟨_, rfl, HE.out, HBQ.out _⟩
      · obtain ⟨p1, e1, hg, hr1⟩ := br_step HY.out HT.out HK.out HR1.out hkp h0
        have HR2 := hide hr1
        have HIG := hide fun (m : Nat) => (e1 ▸ HIX.out m (xs.getD p 0) : Calls Try.prog 94 #[.slice b n d, .int .i64 (xs.getD p 0)] (W2.drewN m) fun e w' => e = .returned (.int .i64 (p1 : Int)) ∧ w' = W2.drewN m)
        generalize xs.getD p 0 = x at *
        have hx0 : (x != 0) = true := bne_iff_ne.2 h0
        clear hr1 e1
        go_wp2_with fail
        go_quiet ((go_at_call 94; exact (HIG.out _).mono fun _ _ h => ⟨h.1, _, h.2⟩))
        go_wp2_with fail
        go_roundg (gk - 1)
        case measure => omega
        case rel => exact ⟨p1, t + 1, q + nq, rfl, HR2, by first | rfl | simp | simp [go_sem]⟩
    · have hd : decide ((k : Int) < (p : Int)) = false := by simp; omega
      have HE := hide (br_end HR1.out hkp)
      go_wp2_with fail
      go_ret
      exact ⟨_, rfl, HE.out, HBQ.out _⟩
end Go.Proofs.Ytnjkdfeajlnojaa
namespace Go.Proofs.Ytnjkdfeajlnojaa
open Go.RowKit

/-- How many are elsewhere, and how many rings. -/
def AR (k n : Nat) (xs ws : List Int) (A R : Nat) : Prop := Mv.Is k (Mv.Away (Mx.fn xs) (Mx.fn ws)) A ∧ Mv.Is k (Mv.Lead (Mv.nxt n (Mx.fn xs) (Mx.fn ws))) R
theorem away_b {xs ws : List Int} {n k : Nat} (h2 : Mv.Two n (Mx.fn xs) (Mx.fn ws)) (hk : k < n) : ((xs.getD k 0 != 0) && (xs.getD k 0 != ws.getD k 0)) = true ↔ Mv.Away (Mx.fn xs) (Mx.fn ws) k := by
  have h := h2.sa.ge k hk
  have h' : 0 ≤ xs.getD k 0 := h
  simp only [Bool.and_eq_true, bne_iff_ne, ne_eq]
  exact ⟨fun ⟨h1, h3⟩ => ⟨show 0 < xs.getD k 0 by omega, fun e => h3 e.symm⟩, fun ⟨h1, h3⟩ => ⟨fun e => by have h1' : 0 < xs.getD k 0 := h1; omega, fun e => h3 e.symm⟩⟩
set_option maxHeartbeats 400000 in
theorem ro_no {a b : Option Addr} {n m c d : Nat} {xs ws : List Int} {w : World} (HX : Hid (xs.length = n)) (HY : Hid (ws.length = m)) (hc : n ≤ c) (hd : m ≤ d) (HA : Hid (ARow w a xs)) (HB : Hid (ARow w b ws)) (HG : Hid (Mx.sameB xs ws = false)) :
    Calls Try.prog 78 #[.slice a n c, .slice b m d] w fun e w' => e = .returned (.tuple #[.int .i64 0, .int .i64 0, .bool false]) ∧ Below w.heap.size w w' := by
  go_enter Try.func78, Try.ntmps78
  go_wp2_with fail
  refine (asg_eq HX HY hc hd HA HB HG).mono ?_
  rintro e w1 ⟨rfl, hb1⟩
  have HB1 := hide hb1
  clear hb1
  go_wp2_with fail
  exact bodyPost_ret (v := .tuple #[.int .i64 0, .int .i64 0, .bool false]) (by simp [results, Try.results78, go_sem, *]) rfl ⟨rfl, HB1.out⟩
set_option maxHeartbeats 4000000 in
theorem ro_yes {a b : Option Addr} {n c d : Nat} {xs ws : List Int} {w : World} (HX : Hid (xs.length = n)) (HY : Hid (ws.length = n)) (hn : n ≤ 9) (hc : n ≤ c) (hd : n ≤ d) (HA : Hid (ARow w a xs)) (HB : Hid (ARow w b ws)) (HG : Hid (Mx.sameB xs ws = true)) (HT : Hid (Mv.Two n (Mx.fn xs) (Mx.fn ws))) :
    Calls Try.prog 78 #[.slice a n c, .slice b n d] w fun e w' => ∃ A R : Nat, e = .returned (.tuple #[.int .i64 A, .int .i64 R, .bool true]) ∧ AR n n xs ws A R ∧ Below w.heap.size w w' := by
  go_enter Try.func78, Try.ntmps78
  go_wp2_with fail
  refine (asg_eq HX HY hc hd HA HB HG).mono ?_
  rintro e w1 ⟨rfl, hb1⟩
  have HB1 := hide hb1
  clear hb1
  go_wp2_with fail
  go_loopw [8, 9, 10, 20] (fun s8 s9 _ s wr => ∃ (k e r : Nat), s8 = .int .i64 e ∧ s9 = .int .i64 r ∧ s = .int .i64 k ∧ k ≤ n ∧ Hid (AR k n xs ws e r) ∧ Hid (PBox wr w1.heap.size (.slice a n c) (.slice b n d)) ∧ Hid (Below w.heap.size w wr)) (fun _ _ _ s _ => n - (intOf s).toNat)
  case atStart => exact ⟨0, 0, 0, rfl, rfl, rfl, Nat.zero_le _, hide ⟨Mv.Is.zero _, Mv.Is.zero _⟩, hide (PBox.new _ _ _ _), hide (HB1.out.trans ((below_new _ _).mono HB1.out.size))⟩
  case round =>
    obtain ⟨k, e, r, rfl, rfl, rfl, hk, HR, HPX, HBr⟩ := hrel
    have he := HR.out.1.le
    have hr := HR.out.2.le
    by_cases hlt : k < n
    · have x0 := HPX.out.1
      have x1 := HPX.out.2.1
      have HIE := hide (ie_any (w := wr) (c := c) (d := d) HX.out HY.out hlt (HA.out.below HBr.out) (HB.out.below HBr.out))
      have HAW := hide (away_b HT.out hlt)
      generalize ((xs.getD k 0 != 0) && (xs.getD k 0 != ws.getD k 0)) = bb at *
      go_wp2_with fail
      refine HIE.out.mono ?_
      rintro z w3 ⟨rfl, hb3⟩
      have HP3 := hide (HPX.out.below hb3)
      have HB3 := hide (HBr.out.trans (hb3.mono HBr.out.size))
      have HAR := hide (HA.out.below HB3.out)
      have HBR := hide (HB.out.below HB3.out)
      clear hb3 HIE x0 x1
      cases bb
      · have hna : ¬ Mv.Away (Mx.fn xs) (Mx.fn ws) k := fun h => Bool.noConfusion (HAW.out.2 h)
        have HR2 : Hid (AR (k + 1) n xs ws e r) := hide ⟨HR.out.1.no hna, HR.out.2.no fun h => hna (Mv.lead_away h)⟩
        clear hna
        go_wp2_with fail
        go_roundw
        case rel => exact ⟨k + 1, e, r, rfl, rfl, by go_num, by omega, HR2, HP3, HB3⟩
        case measure => simp only [intOf]; omega
      · have haw := HAW.out.1 rfl
        have HAY := hide haw
        have y0 := HP3.out.1
        have y1 := HP3.out.2.1
        have HBE := hide (br_any (w := w3) (c := c) (d := d) HX.out HY.out hlt (by omega) HT.out haw HAR.out HBR.out)
        clear haw
        go_wp2_with fail
        refine HBE.out.mono ?_
        rintro z w4 ⟨q, rfl, hq, hb4⟩
        have HP4 := hide (HP3.out.below hb4)
        have HB4 := hide (HB3.out.trans (hb4.mono HB3.out.size))
        have HQ := hide hq
        clear hb4 hq HBE y0 y1
        cases q
        · have HR2 : Hid (AR (k + 1) n xs ws (e + 1) r) := hide ⟨HR.out.1.yes HAY.out, HR.out.2.no fun h => Bool.noConfusion (HQ.out.2 h)⟩
          go_wp2_with fail
          go_roundw
          case rel => exact ⟨k + 1, e + 1, r, by go_num, rfl, by go_num, by omega, HR2, HP4, HB4⟩
          case measure => simp only [intOf]; omega
        · have HR2 : Hid (AR (k + 1) n xs ws (e + 1) (r + 1)) := hide ⟨HR.out.1.yes HAY.out, HR.out.2.yes (HQ.out.1 rfl)⟩
          go_wp2_with fail
          go_roundw
          case rel => exact ⟨k + 1, e + 1, r + 1, by go_num, by go_num, by go_num, by omega, HR2, HP4, HB4⟩
          case measure => simp only [intOf]; omega
    · have hke : k = n := by omega
      subst hke
      go_wp2_with fail
      exact bodyPost_ret (v := .tuple #[.int .i64 e, .int .i64 r, .bool true]) (by simp [results, Try.results78, go_sem, *]) rfl ⟨e, r, rfl, HR.out, HBr.out⟩
end Go.Proofs.Ytnjkdfeajlnojaa
namespace Go.Proofs.Ytnjkdfeajlnojaa
open Go.RowKit

abbrev nx (n : Nat) (xs ws : List Int) : Mv.PF := Mv.nxt n (Mx.fn xs) (Mx.fn ws)
/-- How the marking walk from k stands. -/
structure In (n k K gk t i r r' : Nat) (xs ws : List Int) (m l : List Bool) : Prop where
  sw : Mv.Sw n (nx n xs ws) k t i m l
  lt : i < n
  sum : t + gk = K
  rr : (0 < t ∧ i = k ∧ r' = r + 1) ∨ (¬ (0 < t ∧ i = k) ∧ r' = r)
def Stp (n k K : Nat) (xs ws : List Int) : Prop := ∀ x, Mv.it (nx n xs ws) K k = some x → (0 < K ∧ x = k) ∨ nx n xs ws x = none
theorem in_start {n k r : Nat} {xs ws : List Int} {m : List Bool} (h2 : Mv.Two n (Mx.fn xs) (Mx.fn ws)) (hm : m.length = n) (hk : k < n) : ∃ K, Stp n k K xs ws ∧ In n k K K 0 k r r xs ws m m := by
  obtain ⟨K, hK⟩ := Mv.stop_of (n := n) (Mv.nxt_inj h2) (fun i x e => (Mv.nxt_some e).1) k
  exact ⟨K, hK, Mv.Sw.start hm, hk, by omega, Or.inr ⟨fun h => by omega, rfl⟩⟩
theorem in_step {n k K gk t i r r' : Nat} {xs ws : List Int} {m l : List Bool} (hy : ws.length = n) (h2 : Mv.Two n (Mx.fn xs) (Mx.fn ws)) (hK : Stp n k K xs ws) (h : In n k K gk t i r r' xs ws m l) (hl : l.getD i true = false) (ha : Mv.Away (Mx.fn xs) (Mx.fn ws) i) : ∃ q : Nat, Ma.idx ws (xs.getD i 0) = (q : Int) ∧ 0 < gk ∧ r' = r ∧ ∀ r2, (q = k → r2 = r + 1) → (q ≠ k → r2 = r) → In n k K (gk - 1) (t + 1) q r r2 xs ws m (l.set i true) := by
  obtain ⟨q, e1, e2, hq⟩ := idx_nxt hy h2 h.lt ha
  have hno : ¬ (0 < t ∧ i = k) := fun ⟨h0, e⟩ => by
    have := (h.sw.marks i h.lt).2 (Or.inr ⟨0, h0, by rw [e]; rfl⟩)
    rw [hl] at this; cases this
  have hs := h.sum
  have hg : 0 < gk := by
    apply Nat.pos_of_ne_zero
    rintro rfl
    rcases hK i (by rw [← hs]; exact h.sw.now) with ⟨h0, e⟩ | e
    · exact hno ⟨by omega, e⟩
    · rw [show nx n xs ws i = some q from e1] at e; cases e
  refine ⟨q, e2, hg, ?_, fun r2 h3 h4 => ⟨h.sw.step h.lt hl e1, hq, by omega, ?_⟩⟩
  · rcases h.rr with ⟨a, b, _⟩ | ⟨_, e⟩
    · exact absurd ⟨a, b⟩ hno
    · exact e
  · by_cases e : q = k
    · exact Or.inl ⟨by omega, e, h3 e⟩
    · exact Or.inr ⟨fun h => e h.2, h4 e⟩
theorem in_end {n k K gk t i r r' : Nat} {xs ws : List Int} {m l : List Bool} (h2 : Mv.Two n (Mx.fn xs) (Mx.fn ws)) (hk : k < n) (hm : Mv.Mk n (nx n xs ws) k m) (hr : Mv.Is k (Mv.Lead (nx n xs ws)) r) (h : In n k K gk t i r r' xs ws m l) (hs : l.getD i true = true ∨ ¬ Mv.Away (Mx.fn xs) (Mx.fn ws) i) : l.length = n ∧ Mv.Mk n (nx n xs ws) (k + 1) l ∧ Mv.Is (k + 1) (Mv.Lead (nx n xs ws)) r' := by
  obtain ⟨h3, h4⟩ := Mv.Sw.fin (Mv.nxt_inj h2) hk h.lt hm h.sw (hs.imp id fun e => Mv.nxt_none fun e' => e e'.2)
  refine ⟨h.sw.len, h3, ?_⟩
  rcases h.rr with ⟨a, b, e⟩ | ⟨a, e⟩
  · rw [e]; exact hr.yes (h4.2 ⟨a, b⟩)
  · rw [e]; exact hr.no fun h => a (h4.1 h)
theorem mk_zero (n : Nat) (s : Mv.PF) : Mv.Mk n s 0 (List.replicate n false) := fun x hx => by
  refine ⟨fun h => ?_, fun ⟨_, j, hj, _⟩ => by omega⟩
  simp [hx] at h
set_option maxHeartbeats 4000000 in
theorem lr_any {a b : Option Addr} {n c d : Nat} {xs ws : List Int} {w : World} (hn : n ≤ 9) (HX : Hid (xs.length = n)) (HY : Hid (ws.length = n)) (HA : Hid (ARow w a xs)) (HB : Hid (ARow w b ws)) (HT : Hid (Mv.Two n (Mx.fn xs) (Mx.fn ws))) :
    Calls Try.prog 56 #[.slice a n c, .slice b n d] w fun e w' => ∃ A R : Nat, e = .returned (.tuple #[.int .i64 A, .int .i64 R]) ∧ AR n n xs ws A R ∧ Below w.heap.size w w' := by
  have hmk := makeB_run n (by omega)
  have HM := hide (madeB_own w n (by omega))
  have hbn := below_new w (.cells (madeCells #[.bool false] n) 4)
  obtain ⟨W2, hW2⟩ : ∃ W, W = w.alloc (.cells (madeCells #[.bool false] n) 4) := ⟨_, rfl⟩
  have hmo := HM.out
  rw [← hW2] at hbn hmo
  have HMO := hide hmo
  have HBN := hide hbn
  have HAR := hide (HA.out.below hbn)
  have HBR := hide (HB.out.below hbn)
  have HW2 := hide hW2.symm
  clear HM hmo hbn hW2
  go_enter Try.func56, Try.ntmps56
  go_wp2_with fail
  rw [HW2.out]
  clear hmk HW2
  go_loop [6, 9, 10, 18] (fun s6 _ _ s => ∃ (k e : Nat), s6 = .int .i64 e ∧ s = .int .i64 k ∧ k ≤ n ∧ Hid (Mv.Is k (Mv.Away (Mx.fn xs) (Mx.fn ws)) e)) (fun _ _ _ s => n - (intOf s).toNat)
  case atStart => exact ⟨0, 0, rfl, rfl, Nat.zero_le _, hide (Mv.Is.zero _)⟩
  case round =>
    obtain ⟨k, e, rfl, rfl, hk, HI⟩ := hrel
    have he := HI.out.le
    by_cases hlt : k < n
    · obtain ⟨b1, o1, rfl, q1⟩ := HBR.out.at (i := k) (by rw [HY.out]; exact hlt)
      obtain ⟨b2, o2, rfl, q2⟩ := HAR.out.at (i := k) (by rw [HX.out]; exact hlt)
      have i0 : (0 : Int) ≤ (k : Int) := by omega
      have i1 : (k : Int) < (n : Int) := by omega
      have HAW : Hid ((0 < xs.getD k 0 ∧ ws.getD k 0 ≠ xs.getD k 0) ↔ Mv.Away (Mx.fn xs) (Mx.fn ws) k) := hide Iff.rfl
      generalize ws.getD k 0 = g at *
      generalize xs.getD k 0 = x at *
      by_cases hg : 0 < x
      · cases hx0 : (g != x)
        · have H1 := hide (HI.out.no fun h => by have := (HAW.out.2 h).2; rw [← bne_iff_ne, hx0] at this; cases this)
          go_wp2_with fail
          go_round
          case rel => exact ⟨k + 1, e, rfl, by go_num, by omega, H1⟩
          case measure => simp only [intOf]; omega
        · have H1 := hide (HI.out.yes (HAW.out.1 ⟨hg, bne_iff_ne.1 hx0⟩))
          go_wp2_with fail
          go_round
          case rel => exact ⟨k + 1, e + 1, by go_num, by go_num, by omega, H1⟩
          case measure => simp only [intOf]; omega
      · have H1 := hide (HI.out.no fun h => hg (HAW.out.2 h).1)
        go_wp2_with fail
        go_round
        case rel => exact ⟨k + 1, e, rfl, by go_num, by omega, H1⟩
        case measure => simp only [intOf]; omega
    · have hke : k = n := by omega
      subst hke
      go_wp2_with fail
      go_loopw [7, 11, 12, 38] (fun s7 _ _ s wr => ∃ (j r : Nat) (m : List Bool), s7 = .int .i64 r ∧ s = .int .i64 j ∧ j ≤ k ∧ m.length = k ∧ Hid (Mv.Mk k (nx k xs ws) j m) ∧ Hid (Mv.Is j (Mv.Lead (nx k xs ws)) r) ∧ Hid (wr.ownsRow w.heap.size 4 1 (.slice (some ⟨w.heap.size, 0, none⟩) k k) k (bls m)) ∧ Hid (Below w.heap.size w wr)) (fun _ _ _ s _ => k - (intOf s).toNat)
      case atStart => exact ⟨0, 0, List.replicate k false, rfl, rfl, Nat.zero_le _, by simp, hide (mk_zero _ _), hide (Mv.Is.zero _), HMO, HBN⟩
      case round =>
        obtain ⟨j, r, m, rfl, rfl, hj, hm, HMK, HIS, HO, HBW⟩ := hrel
        have hr := HIS.out.le
        by_cases hjl : j < k
        · obtain ⟨K, hst, hin⟩ := in_start (r := r) HT.out hm hjl
          have HST := hide hst
          have HIN := hide hin
          have k0 : (0 : Int) ≤ (j : Int) := by omega
          clear hst hin
          go_wp2_with fail
          go_loopg [7, 12] K (fun gk s7 s12 wi => ∃ (i t q : Nat) (l : List Bool), s7 = .int .i64 q ∧ s12 = .int .i64 i ∧ q ≤ 10 ∧ Hid (In k j K gk t i r q xs ws m l) ∧ Hid (wi.ownsRow w.heap.size 4 1 (.slice (some ⟨w.heap.size, 0, none⟩) k k) k (bls l)) ∧ Hid (Below w.heap.size w wi))
          case atStart => exact ⟨j, 0, r, m, rfl, rfl, by omega, HIN, HO, HBW⟩
          case round =>
            obtain ⟨i, t, q, l, rfl, rfl, hq, HN, HOI, HBI⟩ := hrel
            have hil := HN.out.lt
            have j0 : (0 : Int) ≤ (i : Int) := by omega
            have j1 : (i : Int) < (k : Int) := by omega
            have hll := HN.out.sw.len
            have c0 : wr.cell? ⟨w.heap.size, i, none⟩ = some (.bool (l.getD i true)) := by
              rw [HOI.out.cellAt i (by rw [Nat.mul_one]; exact hil), bls_get _ i (by rw [hll]; exact hil) true]
            obtain ⟨b1, o1, rfl, q1⟩ := (HB.out.below HBI.out).at (i := i) (by rw [HY.out]; exact hil)
            obtain ⟨b2, o2, rfl, q2⟩ := (HA.out.below HBI.out).at (i := i) (by rw [HX.out]; exact hil)
            have HAW : Hid ((0 < xs.getD i 0 ∧ ws.getD i 0 ≠ xs.getD i 0) ↔ Mv.Away (Mx.fn xs) (Mx.fn ws) i) := hide Iff.rfl
            have HEN := hide fun (h : l.getD i true = true ∨ ¬ Mv.Away (Mx.fn xs) (Mx.fn ws) i) => in_end HT.out hjl HMK.out HIS.out HN.out h
            have HSTP := hide fun (h : l.getD i true = false) (ha : Mv.Away (Mx.fn xs) (Mx.fn ws) i) => in_step HY.out HT.out HST.out HN.out h ha
            have HOD := hide fun (z : Nat) => g_own HOI.out (below_drewN (Below.refl wr.heap.size wr) z)
            have HBD := hide fun (z : Nat) => below_drewN HBI.out z
            cases hb : l.getD i true
            · rw [hb] at c0
              by_cases hg : 0 < xs.getD i 0
              · cases hx0 : (ws.getD i 0 != xs.getD i 0)
                · obtain ⟨e1, e2, e3⟩ := HEN.out (Or.inr fun h => by have := (HAW.out.2 h).2; rw [← bne_iff_ne, hx0] at this; cases this)
                  have HE2 := hide e2
                  have HE3 := hide e3
                  generalize ws.getD i 0 = g at *
                  generalize xs.getD i 0 = x at *
                  clear hb e2 e3 HEN HSTP HAW
                  go_wp2_with fail
                  go_quiet (fail)
                  go_wp2_with fail
                  go_roundw
                  case rel => exact ⟨j + 1, q, l, rfl, by go_num, by omega, e1, HE2, HE3, hide (HOD.out _), hide (HBD.out _)⟩
                  case measure => simp only [intOf]; omega
                · obtain ⟨p, e1, hg0, hqr, hin⟩ := HSTP.out hb (HAW.out.1 ⟨hg, bne_iff_ne.1 hx0⟩)
                  subst hqr
                  have HI2 := hide hin
                  have HSP := hide fun (W : World) (h : ARow W (some ⟨b1, o1, none⟩) ws) => (e1 ▸ sp_any (w := W) (c := d) (x := xs.getD i 0) HY.out (by omega) h : Calls Try.prog 77 #[.slice (some ⟨b1, o1, none⟩) k d, .int .i64 (xs.getD i 0)] W fun e w' => e = .returned (.int .i64 (p : Int)) ∧ w' = W)
                  have HAT := hide fun (W : World) (h : Below w.heap.size w W) => show W.cell? ⟨b2, o2 + i, none⟩ = some (.int .i64 (xs.getD i 0)) by
                    obtain ⟨_, _, e, q⟩ := (HA.out.below h).at (i := i) (by rw [HX.out]; exact hil)
                    cases e; exact q
                  generalize ws.getD i 0 = g at *
                  generalize xs.getD i 0 = x at *
                  clear hb e1 hin HEN HSTP HAW
                  go_wp2_with fail
                  go_quiet (fail)
                  have hown := HOD.out nq
                  have hbd := HBD.out nq
                  clear HOD HBD c0 q1 q2 HOI HBI
                  generalize wr.drewN nq = W at *
                  have f0 := hown.frozenAt i
                  have c0 : W.cell? ⟨w.heap.size, i, none⟩ = some (.bool (l.getD i true)) := by
                    rw [hown.cellAt i (by rw [Nat.mul_one]; exact hil), bls_get _ i (by rw [hll]; exact hil) true]
                  obtain ⟨st1, st2⟩ := hown.stored i (.bool true)
                  rw [bls_set] at st1
                  have HB5 := hide (hbd.trans (grown_below' st2 (Nat.le_refl _) hbd.size))
                  have q3 := HAT.out _ HB5.out
                  have HSQ := hide (HSP.out _ (HB.out.below HB5.out))
                  have HO5 := hide st1
                  clear st1 st2 hown hbd HSP HAT
                  go_wp2_with fail
                  refine HSQ.out.mono ?_
                  rintro z w4 ⟨rfl, hw4⟩
                  subst hw4
                  by_cases hpk : p = j
                  · have HI3 := hide (HI2.out (q + 1) (fun _ => rfl) (fun h => absurd hpk h))
                    subst hpk
                    go_wp2_with fail
                    go_roundg (gk - 1)
                    case measure => omega
                    case rel => exact ⟨p, t + 1, q + 1, _, by go_num, rfl, by omega, HI3, HO5, HB5⟩
                  · have HI3 := hide (HI2.out q (fun h => absurd h hpk) (fun _ => rfl))
                    have hpj : ¬ (p : Int) = (j : Int) := by omega
                    go_wp2_with fail
                    go_roundg (gk - 1)
                    case measure => omega
                    case rel => exact ⟨p, t + 1, q, _, rfl, rfl, by omega, HI3, HO5, HB5⟩
              · have hd0 : decide (0 < xs.getD i 0) = false := decide_eq_false hg
                obtain ⟨e1, e2, e3⟩ := HEN.out (Or.inr fun h => hg (HAW.out.2 h).1)
                have HE2 := hide e2
                have HE3 := hide e3
                generalize ws.getD i 0 = g at *
                generalize xs.getD i 0 = x at *
                clear hb e2 e3 HEN HSTP HAW
                go_wp2_with fail
                go_quiet (fail)
                go_wp2_with fail
                go_roundw
                case rel => exact ⟨j + 1, q, l, rfl, by go_num, by omega, e1, HE2, HE3, hide (HOD.out _), hide (HBD.out _)⟩
                case measure => simp only [intOf]; omega
            · rw [hb] at c0
              obtain ⟨e1, e2, e3⟩ := HEN.out (Or.inl hb)
              have HE2 := hide e2
              have HE3 := hide e3
              generalize ws.getD i 0 = g at *
              generalize xs.getD i 0 = x at *
              clear hb e2 e3 HEN HSTP HAW
              go_wp2_with fail
              go_quiet (fail)
              go_wp2_with fail
              go_roundw
              case rel => exact ⟨j + 1, q, l, rfl, by go_num, by omega, e1, HE2, HE3, hide (HOD.out _), hide (HBD.out _)⟩
              case measure => simp only [intOf]; omega
        · have hje : j = k := by omega
          subst hje
          have HFI : Hid (AR j j xs ws e r) := hide ⟨HI.out, HIS.out⟩
          go_wp2_with fail
          go_ret2
          exact ⟨e, r, rfl, HFI.out, HBW.out⟩
end Go.Proofs.Ytnjkdfeajlnojaa
namespace Go.Proofs.Ytnjkdfeajlnojaa
open Go.RowKit

/-- What is answered: how many are elsewhere and how many rings there are, or nothing. -/
def Ans (xs ws : List Int) (A R : Int) : Prop := (Mx.sameB xs ws = true ∧ ∃ a r : Nat, A = a ∧ R = r ∧ AR xs.length xs.length xs ws a r) ∨ (Mx.sameB xs ws = false ∧ A = 0 ∧ R = 0)
theorem ans_some (xs ws : List Int) : ∃ A R, Ans xs ws A R := by
  cases h : Mx.sameB xs ws
  · exact ⟨0, 0, Or.inr ⟨h, rfl, rfl⟩⟩
  · obtain ⟨a, ha⟩ := Mv.Is.some xs.length (Mv.Away (Mx.fn xs) (Mx.fn ws))
    obtain ⟨r, hr⟩ := Mv.Is.some xs.length (Mv.Lead (Mv.nxt xs.length (Mx.fn xs) (Mx.fn ws)))
    exact ⟨a, r, Or.inl ⟨h, a, r, rfl, rfl, ha, hr⟩⟩
theorem ans_bd {xs ws : List Int} {A R : Int} (h : Ans xs ws A R) : 0 ≤ A ∧ A ≤ 9 ∧ 0 ≤ R ∧ R ≤ 9 := by
  rcases h with ⟨hs, a, r, rfl, rfl, h1, h2⟩ | ⟨_, rfl, rfl⟩
  · have hn := (Mx.good_len (Mx.same_good hs).1).2
    have := h1.le
    have := h2.le
    omega
  · omega
theorem ar_one {k n : Nat} {xs ws : List Int} {a r a' r' : Nat} (h : AR k n xs ws a r) (h' : AR k n xs ws a' r') : a = a' ∧ r = r' := ⟨h.1.one h'.1, h.2.one h'.2⟩
theorem ro_w {a b : Option Addr} {n m c d : Nat} {xs ws : List Int} {A R : Int} {w : World} (hx : xs.length = n) (hy : ws.length = m) (hc : n ≤ c) (hd : m ≤ d) (hans : Ans xs ws A R) (ha : ARow w a xs) (hb : ARow w b ws) :
    Calls Try.prog 78 #[.slice a n c, .slice b m d] w fun e w' => e = .returned (.tuple #[.int .i64 A, .int .i64 R, .bool (Mx.sameB xs ws)]) ∧ Below w.heap.size w w' := by
  rcases hans with ⟨hs, A0, R0, rfl, rfl, hAR⟩ | ⟨hs, rfl, rfl⟩
  · obtain ⟨e2, h2⟩ := Mx.same_two hs hx
    obtain rfl : n = m := by omega
    have hn := (Mx.good_len (Mx.same_good hs).1).2
    rw [hs]
    refine (ro_yes (hide hx) (hide hy) (by omega) hc hd (hide ha) (hide hb) (hide hs) (hide h2)).mono ?_
    rintro e w' ⟨A1, R1, rfl, h1, hw⟩
    rw [hx] at hAR
    obtain ⟨rfl, rfl⟩ := ar_one hAR h1
    exact ⟨rfl, hw⟩
  · rw [hs]
    exact ro_no (hide hx) (hide hy) hc hd (hide ha) (hide hb) (hide hs)
set_option maxHeartbeats 400000 in
theorem mn_w {a b : Option Addr} {n m c d : Nat} {xs ws : List Int} {A R : Int} {w : World} (hx : xs.length = n) (hy : ws.length = m) (hc : n ≤ c) (hd : m ≤ d) (hans : Ans xs ws A R) (ha : ARow w a xs) (hb : ARow w b ws) :
    Calls Try.prog 57 #[.slice a n c, .slice b m d] w fun e w' => e = .returned (.tuple #[.int .i64 (A + R), .bool (Mx.sameB xs ws)]) ∧ Below w.heap.size w w' := by
  have HR := hide (ro_w (c := c) (d := d) hx hy hc hd hans ha hb)
  obtain ⟨g0, g1, g2, g3⟩ := ans_bd hans
  generalize Mx.sameB xs ws = G at *
  clear hans ha hb
  go_enter Try.func57, Try.ntmps57
  go_wp2_with fail
  refine HR.out.mono ?_
  rintro e w1 ⟨rfl, hw⟩
  have HW := hide hw
  clear hw
  go_wp2_with fail
  go_ret2
  exact ⟨by go_num, HW.out⟩
end Go.Proofs.Ytnjkdfeajlnojaa
namespace Go.Proofs.Ytnjkdfeajlnojaa
open Go.RowKit

/-- A move's box, as it lies. -/
def MW (w : World) (B : Nat) (v0 v1 : Value) : Prop := w.heap[B]? = some (.cells #[v0, v1] 41 (0, 0))
theorem MW.new (w : World) (v0 v1 : Value) : MW (w.alloc (.cells #[v0, v1] 41)) w.heap.size v0 v1 := World.alloc_heap_new w _
theorem MW.lt {w : World} {B : Nat} {v0 v1 : Value} (h : MW w B v0 v1) : B < w.heap.size := (Array.getElem?_eq_some_iff.1 h).1
theorem MW.below {w w' : World} {B : Nat} {v0 v1 : Value} (h : MW w B v0 v1) (hb : Below w.heap.size w w') : MW w' B v0 v1 := (hb.block B h.lt).trans h
theorem MW.cells {w : World} {B : Nat} {v0 v1 : Value} (h : MW w B v0 v1) : w.cell? ⟨B, 0, none⟩ = some v0 ∧ w.cell? ⟨B, 1, none⟩ = some v1 := by simp [World.cell?, show w.heap[B]? = _ from h]
theorem MW.fz {w : World} {B : Nat} {v0 v1 : Value} (h : MW w B v0 v1) (i : Nat) : w.frozen? ⟨B, i, none⟩ = false := by simp [World.frozen?, show w.heap[B]? = _ from h]
theorem MW.set0 {w : World} {B : Nat} {v0 v1 : Value} (h : MW w B v0 v1) (u : Value) : MW (w.setCell ⟨B, 0, none⟩ u) B u v1 := by
  obtain ⟨hlt, hk⟩ := Array.getElem?_eq_some_iff.1 h
  show (w.heap.modify B _)[B]? = _
  rw [Array.getElem?_eq_getElem (by rw [Array.size_modify]; exact hlt), Array.getElem_modify_self, hk]
  rfl
theorem MW.set1 {w : World} {B : Nat} {v0 v1 : Value} (h : MW w B v0 v1) (u : Value) : MW (w.setCell ⟨B, 1, none⟩ u) B v0 u := by
  obtain ⟨hlt, hk⟩ := Array.getElem?_eq_some_iff.1 h
  show (w.heap.modify B _)[B]? = _
  rw [Array.getElem?_eq_getElem (by rw [Array.size_modify]; exact hlt), Array.getElem_modify_self, hk]
  rfl
def goodJ (x : Jb.J) : Bool := Jb.goodB x.xs x.ws x.L x.M x.f
theorem good_same16 {x : Jb.J} (h : goodJ x = true) : Mx.sameB x.xs x.ws = true ∧ (1 ≤ x.xs.length ∧ x.xs.length ≤ 9) ∧ x.M.length ≤ 60 := by
  have hf := Jb.good_fit (xs := x.xs) (ws := x.ws) (L := x.L) (M := x.M) (f := x.f) h
  have := hf.two
  exact ⟨hf.same, ⟨by have := this.1; simp only at this; omega, this.2.1⟩, hf.m60⟩
/-- The next move. -/
def nmB (x : Jb.J) : Bool := goodJ x && !x.L.isEmpty
def nmV (x : Jb.J) : Int × Int := if nmB x then x.L.getD 0 (0, 0) else (0, 0)
theorem nm_no1 {x : Jb.J} (h : goodJ x = false) : nmB x = false ∧ nmV x = (0, 0) := by
  have : nmB x = false := by unfold nmB; rw [h]; rfl
  exact ⟨this, by unfold nmV; rw [this]; rfl⟩
theorem nm_no2 {x : Jb.J} (h : x.L.length = 0) : nmB x = false ∧ nmV x = (0, 0) := by
  have : nmB x = false := by unfold nmB; rw [List.length_eq_zero_iff.1 h]; simp
  exact ⟨this, by unfold nmV; rw [this]; rfl⟩
theorem nm_yes {x : Jb.J} (h : goodJ x = true) (h2 : x.L.length ≠ 0) : nmB x = true ∧ nmV x = x.L.getD 0 (0, 0) := by
  have : nmB x = true := by
    unfold nmB; rw [h]
    cases e : x.L with
    | nil => rw [e] at h2; simp at h2
    | cons _ _ => rfl
  exact ⟨this, by unfold nmV; rw [this]; rfl⟩
/-- The start. -/
def soB (x : Jb.J) : Bool := goodJ x
def soL (x : Jb.J) : List Int := if goodJ x then Jb.stL x.xs x.M else []
theorem so_no {x : Jb.J} (h : goodJ x = false) : soB x = false ∧ soL x = [] := ⟨h, by unfold soL; rw [h]; rfl⟩
theorem so_yes {x : Jb.J} (h : goodJ x = true) : soB x = Jb.stB x.xs x.M ∧ soL x = Jb.stL x.xs x.M := by
  refine ⟨?_, by unfold soL; rw [h]; rfl⟩
  unfold soB
  rw [h]
  simp only [goodJ, Jb.goodB, Bool.and_eq_true] at h
  exact h.2.2.2.1.symm
theorem soL_le (x : Jb.J) : (soL x).length ≤ 9 := by
  unfold soL
  split
  · rename_i h; exact Jb.stL_len _ (good_same16 h).2.1.2
  · simp
theorem gj_in {v : Value} {x : Jb.J} {w : World} {g : Bool} (h : JIn w v x) (hg : goodJ x = g) :
    Calls Try.prog 20 #[v] w fun e w' => e = .returned (.bool g) ∧ Below w.heap.size w w' := by
  obtain ⟨a, b, p, r, c, d, e, t, rfl, hc, hd, ra, rb, rp, rr⟩ := h.ex
  subst hg
  exact gj_any (hide rfl) (hide rfl) hc hd (hide ra) (hide rb) (hide rfl) (hide rp) (hide rfl) (hide rr)
theorem sgj_in {v : Value} {x : Jb.J} {w : World} {g : Bool} (h : JIn w v x) (hg : goodJ x = g) :
    Calls Try.prog 18 #[v] w fun e w' => e = .returned (.bool g) ∧ Below w.heap.size w w' := by
  obtain ⟨a, b, p, r, c, d, e, t, rfl, hc, hd, ra, rb, rp, rr⟩ := h.ex
  subst hg
  exact sgj_any (hide rfl) (hide rfl) hc hd (hide ra) (hide rb) (hide rfl) (hide rp) (hide rfl) (hide rr)
set_option maxHeartbeats 2000000 in
theorem nm_in {v : Value} {x : Jb.J} {w : World} (h : JIn w v x) :
    Calls Try.prog 22 #[v] w fun e w' => e = .returned (.tuple #[.agg #[.int .i64 (nmV x).1, .int .i64 (nmV x).2], .bool (nmB x)]) ∧ Below w.heap.size w w' := by
  obtain ⟨a, b, p, r, c, d, e, t, rfl, hc, hd, ra, rb, rp, rr⟩ := h.ex
  have hb0 : Below w.heap.size w ((w.alloc (.cells #[.slice a x.xs.length c, .slice b x.ws.length d, .slice p x.L.length e, .slice r x.M.length t, .int .i64 x.f] 25)).alloc (.cells #[.int .i64 0, .int .i64 0] 41)) := ((Below.refl _ w).alloc (Nat.le_refl _) _).alloc (by simp) _
  have hm0 := MW.new (w.alloc (.cells #[.slice a x.xs.length c, .slice b x.ws.length d, .slice p x.L.length e, .slice r x.M.length t, .int .i64 x.f] 25)) (.int .i64 0) (.int .i64 0)
  rw [World.size_alloc] at hm0
  have hj0 := (JW.new w 25 (.slice a x.xs.length c) (.slice b x.ws.length d) (.slice p x.L.length e) (.slice r x.M.length t) (.int .i64 x.f)).alloc (.cells #[.int .i64 0, .int .i64 0] 41)
  have h' := h.below hb0
  have rp' := rp.below hb0
  obtain ⟨c0, c1, c2, c3, c4⟩ := hj0.cells
  have HB0 := hide hb0
  have HJ0 := hide hj0
  have HM0 := hide hm0
  cases hg : goodJ x
  · obtain ⟨e1, e2⟩ := nm_no1 hg
    rw [e1, e2]
    have HG := hide (gj_in h' hg)
    clear h h' hg e1 e2 ra rb rp rr rp' hb0 hj0 hm0
    go_enter Try.func22, Try.ntmps22
    go_wp2_with fail
    refine HG.out.mono ?_
    rintro _ w1 ⟨rfl, hb1⟩
    have HB1 := hide (HB0.out.trans (hb1.mono HB0.out.size))
    obtain ⟨d0, d1, d2, d3, d4⟩ := (HJ0.out.below hb1).cells
    have HM1 := hide (HM0.out.below hb1)
    obtain ⟨m0, m1⟩ := HM1.out.cells
    have mf := HM1.out.fz
    clear HG hb1
    go_wp2_with fail
    have HS := hide ((HM1.out.set0 (.int .i64 0)).set1 (.int .i64 0))
    obtain ⟨q0, q1⟩ := HS.out.cells
    exact bodyPost_ret (v := .tuple #[.agg #[.int .i64 0, .int .i64 0], .bool false]) (by simp [results, Try.results22, go_sem, q0, q1]) rfl ⟨rfl, (HB1.out.setCell (p := ⟨w.heap.size + 1, 0, none⟩) (show w.heap.size ≤ w.heap.size + 1 by omega) _).setCell (p := ⟨w.heap.size + 1, 1, none⟩) (show w.heap.size ≤ w.heap.size + 1 by omega) _⟩
  · have HG := hide (gj_in h' hg)
    by_cases h0 : x.L.length = 0
    · obtain ⟨e1, e2⟩ := nm_no2 h0
      rw [e1, e2]
      have z0 : ((x.L.length : Int) == 0) = true := by rw [beq_iff_eq]; omega
      clear h h' hg e1 e2 ra rb rp rr rp' hb0 hj0 hm0 h0
      go_enter Try.func22, Try.ntmps22
      go_wp2_with fail
      refine HG.out.mono ?_
      rintro _ w1 ⟨rfl, hb1⟩
      have HB1 := hide (HB0.out.trans (hb1.mono HB0.out.size))
      obtain ⟨d0, d1, d2, d3, d4⟩ := (HJ0.out.below hb1).cells
      have HM1 := hide (HM0.out.below hb1)
      obtain ⟨m0, m1⟩ := HM1.out.cells
      have mf := HM1.out.fz
      clear HG hb1
      go_wp2_with fail
      have HS := hide ((HM1.out.set0 (.int .i64 0)).set1 (.int .i64 0))
      obtain ⟨q0, q1⟩ := HS.out.cells
      exact bodyPost_ret (v := .tuple #[.agg #[.int .i64 0, .int .i64 0], .bool false]) (by simp [results, Try.results22, go_sem, q0, q1]) rfl ⟨rfl, (HB1.out.setCell (p := ⟨w.heap.size + 1, 0, none⟩) (show w.heap.size ≤ w.heap.size + 1 by omega) _).setCell (p := ⟨w.heap.size + 1, 1, none⟩) (show w.heap.size ≤ w.heap.size + 1 by omega) _⟩
    · obtain ⟨e1, e2⟩ := nm_yes hg h0
      rw [e1, e2]
      have z0 : ((x.L.length : Int) == 0) = false := by simp only [beq_eq_false_iff_ne, ne_eq]; omega
      have z1 : (0 : Int) < (x.L.length : Int) := by omega
      obtain ⟨b1, o1, rfl, hbl, r0, r1⟩ := rp'.at (i := 0) (by omega)
      generalize (x.L.getD 0 (0, 0)) = M at *
      obtain ⟨F, T⟩ := M
      simp only [Nat.zero_mul, Nat.add_zero] at r0 r1 ⊢
      clear h h' hg e1 e2 ra rb rp rr rp' hb0 hj0 hm0 h0
      go_enter Try.func22, Try.ntmps22
      go_wp2_with fail
      refine HG.out.mono ?_
      rintro _ w1 ⟨rfl, hb1⟩
      have HB1 := hide (HB0.out.trans (hb1.mono HB0.out.size))
      obtain ⟨d0, d1, d2, d3, d4⟩ := (HJ0.out.below hb1).cells
      have HM1 := hide (HM0.out.below hb1)
      obtain ⟨m0, m1⟩ := HM1.out.cells
      have mf := HM1.out.fz
      have r0' := (hb1.cell (p := ⟨b1, o1, none⟩) hbl).trans r0
      have r1' := (hb1.cell (p := ⟨b1, o1 + 1, none⟩) hbl).trans r1
      clear HG hb1 r0 r1 c0 c1 c2 c3 c4
      go_wp2_with fail
      have HS := hide ((HM1.out.set0 (.int .i64 F)).set1 (.int .i64 T))
      obtain ⟨q0, q1⟩ := HS.out.cells
      exact bodyPost_ret (v := .tuple #[.agg #[.int .i64 F, .int .i64 T], .bool true]) (by simp [results, Try.results22, go_sem, q0, q1]) rfl ⟨rfl, (HB1.out.setCell (p := ⟨w.heap.size + 1, 0, none⟩) (show w.heap.size ≤ w.heap.size + 1 by omega) _).setCell (p := ⟨w.heap.size + 1, 1, none⟩) (show w.heap.size ≤ w.heap.size + 1 by omega) _⟩
set_option maxHeartbeats 2000000 in
theorem snm_in {v : Value} {x : Jb.J} {w : World} (h : JIn w v x) :
    Calls Try.prog 21 #[v] w fun e w' => e = .returned (.tuple #[.agg #[.int .i64 (nmV x).1, .int .i64 (nmV x).2], .bool (nmB x)]) ∧ Below w.heap.size w w' := by
  obtain ⟨a, b, p, r, c, d, e, t, rfl, hc, hd, ra, rb, rp, rr⟩ := h.ex
  have hb0 : Below w.heap.size w ((w.alloc (.cells #[.slice a x.xs.length c, .slice b x.ws.length d, .slice p x.L.length e, .slice r x.M.length t, .int .i64 x.f] 25)).alloc (.cells #[.int .i64 0, .int .i64 0] 41)) := ((Below.refl _ w).alloc (Nat.le_refl _) _).alloc (by simp) _
  have hm0 := MW.new (w.alloc (.cells #[.slice a x.xs.length c, .slice b x.ws.length d, .slice p x.L.length e, .slice r x.M.length t, .int .i64 x.f] 25)) (.int .i64 0) (.int .i64 0)
  rw [World.size_alloc] at hm0
  have hj0 := (JW.new w 25 (.slice a x.xs.length c) (.slice b x.ws.length d) (.slice p x.L.length e) (.slice r x.M.length t) (.int .i64 x.f)).alloc (.cells #[.int .i64 0, .int .i64 0] 41)
  have h' := h.below hb0
  have rp' := rp.below hb0
  obtain ⟨c0, c1, c2, c3, c4⟩ := hj0.cells
  have HB0 := hide hb0
  have HJ0 := hide hj0
  have HM0 := hide hm0
  cases hg : goodJ x
  · obtain ⟨e1, e2⟩ := nm_no1 hg
    rw [e1, e2]
    have HG := hide (sgj_in h' hg)
    clear h h' hg e1 e2 ra rb rp rr rp' hb0 hj0 hm0
    go_enter Try.func21, Try.ntmps21
    go_wp2_with fail
    refine HG.out.mono ?_
    rintro _ w1 ⟨rfl, hb1⟩
    have HB1 := hide (HB0.out.trans (hb1.mono HB0.out.size))
    obtain ⟨d0, d1, d2, d3, d4⟩ := (HJ0.out.below hb1).cells
    have HM1 := hide (HM0.out.below hb1)
    obtain ⟨m0, m1⟩ := HM1.out.cells
    have mf := HM1.out.fz
    clear HG hb1
    go_wp2_with fail
    have HS := hide ((HM1.out.set0 (.int .i64 0)).set1 (.int .i64 0))
    obtain ⟨q0, q1⟩ := HS.out.cells
    exact bodyPost_ret (v := .tuple #[.agg #[.int .i64 0, .int .i64 0], .bool false]) (by simp [results, Try.results21, go_sem, q0, q1]) rfl ⟨rfl, (HB1.out.setCell (p := ⟨w.heap.size + 1, 0, none⟩) (show w.heap.size ≤ w.heap.size + 1 by omega) _).setCell (p := ⟨w.heap.size + 1, 1, none⟩) (show w.heap.size ≤ w.heap.size + 1 by omega) _⟩
  · have HG := hide (sgj_in h' hg)
    by_cases h0 : x.L.length = 0
    · obtain ⟨e1, e2⟩ := nm_no2 h0
      rw [e1, e2]
      have z0 : ((x.L.length : Int) == 0) = true := by rw [beq_iff_eq]; omega
      clear h h' hg e1 e2 ra rb rp rr rp' hb0 hj0 hm0 h0
      go_enter Try.func21, Try.ntmps21
      go_wp2_with fail
      refine HG.out.mono ?_
      rintro _ w1 ⟨rfl, hb1⟩
      have HB1 := hide (HB0.out.trans (hb1.mono HB0.out.size))
      obtain ⟨d0, d1, d2, d3, d4⟩ := (HJ0.out.below hb1).cells
      have HM1 := hide (HM0.out.below hb1)
      obtain ⟨m0, m1⟩ := HM1.out.cells
      have mf := HM1.out.fz
      clear HG hb1
      go_wp2_with fail
      have HS := hide ((HM1.out.set0 (.int .i64 0)).set1 (.int .i64 0))
      obtain ⟨q0, q1⟩ := HS.out.cells
      exact bodyPost_ret (v := .tuple #[.agg #[.int .i64 0, .int .i64 0], .bool false]) (by simp [results, Try.results21, go_sem, q0, q1]) rfl ⟨rfl, (HB1.out.setCell (p := ⟨w.heap.size + 1, 0, none⟩) (show w.heap.size ≤ w.heap.size + 1 by omega) _).setCell (p := ⟨w.heap.size + 1, 1, none⟩) (show w.heap.size ≤ w.heap.size + 1 by omega) _⟩
    · obtain ⟨e1, e2⟩ := nm_yes hg h0
      rw [e1, e2]
      have z0 : ((x.L.length : Int) == 0) = false := by simp only [beq_eq_false_iff_ne, ne_eq]; omega
      have z1 : (0 : Int) < (x.L.length : Int) := by omega
      obtain ⟨b1, o1, rfl, hbl, r0, r1⟩ := rp'.at (i := 0) (by omega)
      generalize (x.L.getD 0 (0, 0)) = M at *
      obtain ⟨F, T⟩ := M
      simp only [Nat.zero_mul, Nat.add_zero] at r0 r1 ⊢
      clear h h' hg e1 e2 ra rb rp rr rp' hb0 hj0 hm0 h0
      go_enter Try.func21, Try.ntmps21
      go_wp2_with fail
      refine HG.out.mono ?_
      rintro _ w1 ⟨rfl, hb1⟩
      have HB1 := hide (HB0.out.trans (hb1.mono HB0.out.size))
      obtain ⟨d0, d1, d2, d3, d4⟩ := (HJ0.out.below hb1).cells
      have HM1 := hide (HM0.out.below hb1)
      obtain ⟨m0, m1⟩ := HM1.out.cells
      have mf := HM1.out.fz
      have r0' := (hb1.cell (p := ⟨b1, o1, none⟩) hbl).trans r0
      have r1' := (hb1.cell (p := ⟨b1, o1 + 1, none⟩) hbl).trans r1
      clear HG hb1 r0 r1 c0 c1 c2 c3 c4
      go_wp2_with fail
      have HS := hide ((HM1.out.set0 (.int .i64 F)).set1 (.int .i64 T))
      obtain ⟨q0, q1⟩ := HS.out.cells
      exact bodyPost_ret (v := .tuple #[.agg #[.int .i64 F, .int .i64 T], .bool true]) (by simp [results, Try.results21, go_sem, q0, q1]) rfl ⟨rfl, (HB1.out.setCell (p := ⟨w.heap.size + 1, 0, none⟩) (show w.heap.size ≤ w.heap.size + 1 by omega) _).setCell (p := ⟨w.heap.size + 1, 1, none⟩) (show w.heap.size ≤ w.heap.size + 1 by omega) _⟩
set_option maxHeartbeats 2000000 in
theorem dl_in {v : Value} {x : Jb.J} {w : World} {A R D : Int} (hans : Ans x.xs x.ws A R) (hD : D = if goodJ x then A + R else 0) (h : JIn w v x) :
    Calls Try.prog 32 #[v] w fun e w' => e = .returned (.tuple #[.int .i64 D, .bool (goodJ x)]) ∧ Below w.heap.size w w' := by
  obtain ⟨a, b, p, r, c, d, e, t, rfl, hc, hd, ra, rb, rp, rr⟩ := h.ex
  have hb0 := below_new w (.cells #[.slice a x.xs.length c, .slice b x.ws.length d, .slice p x.L.length e, .slice r x.M.length t, .int .i64 x.f] 25)
  have hj0 := JW.new w 25 (.slice a x.xs.length c) (.slice b x.ws.length d) (.slice p x.L.length e) (.slice r x.M.length t) (.int .i64 x.f)
  have h' := h.below hb0
  have ra' := ra.below hb0
  have rb' := rb.below hb0
  obtain ⟨c0, c1, c2, c3, c4⟩ := hj0.cells
  have HB0 := hide hb0
  have HJ0 := hide hj0
  cases hg : goodJ x
  · have HG := hide (gj_in h' hg)
    rw [hg] at hD
    simp only [Bool.false_eq_true, if_false] at hD
    subst hD
    clear h h' hg ra rb rp rr ra' rb' hb0 hj0 hans
    go_enter Try.func32, Try.ntmps32
    go_wp2_with fail
    refine HG.out.mono ?_
    rintro _ w1 ⟨rfl, hb1⟩
    have HB1 := hide (HB0.out.trans (hb1.mono HB0.out.size))
    obtain ⟨d0, d1, d2, d3, d4⟩ := (HJ0.out.below hb1).cells
    clear HG hb1
    go_wp2_with fail
    go_ret2
    exact ⟨rfl, HB1.out⟩
  · have HG := hide (gj_in h' hg)
    obtain ⟨hs, ⟨hn1, hn9⟩, hm60⟩ := good_same16 hg
    rw [hg] at hD
    simp only [if_true] at hD
    subst hD
    have HC := hide fun (W : World) (hA : ARow W a x.xs) (hB : ARow W b x.ws) => mn_w (c := c) (d := d) (rfl : x.xs.length = _) (rfl : x.ws.length = _) hc hd hans hA hB
    rw [hs] at HC
    obtain ⟨g0, g1, g2, g3⟩ := ans_bd hans
    clear h h' hg ra rb rp rr hb0 hj0 hans hs
    go_enter Try.func32, Try.ntmps32
    go_wp2_with fail
    refine HG.out.mono ?_
    rintro _ w1 ⟨rfl, hb1⟩
    have HB1 := hide (HB0.out.trans (hb1.mono HB0.out.size))
    obtain ⟨d0, d1, d2, d3, d4⟩ := (HJ0.out.below hb1).cells
    have HC1 := hide (HC.out w1 (ra'.below hb1) (rb'.below hb1))
    clear HG hb1 c0 c1 c2 c3 c4 ra' rb' HC
    go_wp2_with fail
    refine HC1.out.mono ?_
    rintro _ w2 ⟨rfl, hb2⟩
    have HB2 := hide (HB1.out.trans (hb2.mono HB1.out.size))
    clear HC1 hb2
    go_wp2_with fail
    go_ret2
    exact ⟨rfl, HB2.out⟩
set_option maxHeartbeats 2000000 in
theorem sdl_in {v : Value} {x : Jb.J} {w : World} {A R D : Int} (hans : Ans x.xs x.ws A R) (hD : D = if goodJ x then A + R else 0) (h : JIn w v x) :
    Calls Try.prog 31 #[v] w fun e w' => e = .returned (.tuple #[.int .i64 D, .bool (goodJ x)]) ∧ Below w.heap.size w w' := by
  obtain ⟨a, b, p, r, c, d, e, t, rfl, hc, hd, ra, rb, rp, rr⟩ := h.ex
  have hb0 := below_new w (.cells #[.slice a x.xs.length c, .slice b x.ws.length d, .slice p x.L.length e, .slice r x.M.length t, .int .i64 x.f] 25)
  have hj0 := JW.new w 25 (.slice a x.xs.length c) (.slice b x.ws.length d) (.slice p x.L.length e) (.slice r x.M.length t) (.int .i64 x.f)
  have h' := h.below hb0
  have ra' := ra.below hb0
  have rb' := rb.below hb0
  obtain ⟨c0, c1, c2, c3, c4⟩ := hj0.cells
  have HB0 := hide hb0
  have HJ0 := hide hj0
  cases hg : goodJ x
  · have HG := hide (sgj_in h' hg)
    rw [hg] at hD
    simp only [Bool.false_eq_true, if_false] at hD
    subst hD
    clear h h' hg ra rb rp rr ra' rb' hb0 hj0 hans
    go_enter Try.func31, Try.ntmps31
    go_wp2_with fail
    refine HG.out.mono ?_
    rintro _ w1 ⟨rfl, hb1⟩
    have HB1 := hide (HB0.out.trans (hb1.mono HB0.out.size))
    obtain ⟨d0, d1, d2, d3, d4⟩ := (HJ0.out.below hb1).cells
    clear HG hb1
    go_wp2_with fail
    go_ret2
    exact ⟨rfl, HB1.out⟩
  · have HG := hide (sgj_in h' hg)
    obtain ⟨hs, ⟨hn1, hn9⟩, hm60⟩ := good_same16 hg
    rw [hg] at hD
    simp only [if_true] at hD
    subst hD
    obtain ⟨_, A0, R0, rfl, rfl, hAR⟩ := hans.resolve_right (fun e => by rw [hs] at e; cases e.1)
    obtain ⟨e2, h2⟩ := Mx.same_two hs rfl
    have HC := hide fun (W : World) (hA : ARow W a x.xs) (hB : ARow W b x.ws) => lr_any (c := c) (d := d) hn9 (hide (rfl : x.xs.length = _)) (hide e2) (hide hA) (hide hB) (hide h2)
    obtain ⟨g0, g1, g2, g3⟩ := ans_bd hans
    have HAR := hide hAR
    generalize x.ws.length = m at *
    subst e2
    clear h h' hg ra rb rp rr hb0 hj0 hans hs h2 hAR
    go_enter Try.func31, Try.ntmps31
    go_wp2_with fail
    refine HG.out.mono ?_
    rintro _ w1 ⟨rfl, hb1⟩
    have HB1 := hide (HB0.out.trans (hb1.mono HB0.out.size))
    obtain ⟨d0, d1, d2, d3, d4⟩ := (HJ0.out.below hb1).cells
    have HC1 := hide (HC.out w1 (ra'.below hb1) (rb'.below hb1))
    clear HG hb1 c0 c1 c2 c3 c4 ra' rb' HC
    go_wp2_with fail
    refine HC1.out.mono ?_
    rintro _ w2 ⟨A1, R1, rfl, hr, hb2⟩
    obtain ⟨rfl, rfl⟩ := ar_one HAR.out hr
    have HB2 := hide (HB1.out.trans (hb2.mono HB1.out.size))
    clear HC1 hb2 hr
    go_wp2_with fail
    go_ret2
    exact ⟨by go_num, HB2.out⟩
end Go.Proofs.Ytnjkdfeajlnojaa
namespace Go.Proofs.Ytnjkdfeajlnojaa
open Go.ChangeShapes Go.WideShapes Go.ChangeAt Go.RowKit Go.Deep

theorem laidOut' : laidOutB Try.prog = true := by kernel_rfl

set_option maxRecDepth 100000 in
theorem opened_ints {H : Type} {enc : TypeId × Value → H} {W : World} {fuel : Nat} {c : Value} {x : DataW H × List MemPlace} {sp : Nat → Bool}
    (hf : DataW.trod enc Try.prog W 0 sp true fuel 22 [c] = some x) : ∃ (a : Option Addr) (xs : List Int) (cap : Nat), c = .slice a xs.length cap ∧ xs.length ≤ maxLen ∧ ARow W a xs := by
  rcases open_ints Try.underlying22 Try.underlying3 (by kernel_rfl) hf with ⟨hcs, _⟩ | ⟨a, len, cap, zs, hcs, _, hl, hcap, hzl, _, hcell, _⟩
  · simp at hcs
    subst hcs
    exact ⟨none, [], 0, rfl, by simp, Or.inl rfl⟩
  · simp at hcs
    subst hcs
    have hlm : len ≤ zs.length := by rw [hzl]; split <;> omega
    refine ⟨some a, zs.take len, cap, by simp [hlm], by simp [hlm]; omega, ?_⟩
    by_cases h : len = 0
    · left; subst h; rfl
    · right
      obtain ⟨b, off, spot⟩ := a
      have hc := hcell 0 (by omega)
      have hspot : spot = none := by simpa [Addr.add] using World.cell?_spot hc
      subst hspot
      refine ⟨b, off, rfl, World.block_lt_of_cell? W _ hc, ?_⟩
      intro i hi
      simp [hlm] at hi
      have hci := hcell i (by omega)
      rw [add_plain] at hci
      rw [hci]
      simp [hi]

set_option maxRecDepth 100000 in
theorem opened_slice {H : Type} {enc : TypeId × Value → H} {W : World} {base : Nat} {v : Value} {x : DataW H} {p : List MemPlace} {sp : Nat → Bool} (hv : Value.okWide Try.prog W .any base 22 v)
    (h0 : DataW.Trod enc Try.prog W 0 sp true 22 v x p) : ∃ (a : Option Addr) (xs : List Int) (c : Nat), v = .slice a xs.length c ∧ xs.length ≤ maxLen ∧ ARow W a xs := by
  obtain ⟨a0, len0, cap0, rfl⟩ := okWide_slice Try.underlying22 hv
  obtain ⟨fuel, hf⟩ := h0
  exact opened_ints hf
theorem cellsS : Try.prog.cellsOf 22 = 1 := by kernel_rfl
end Go.Proofs.Ytnjkdfeajlnojaa
namespace Go.Proofs.Ytnjkdfeajlnojaa
open Go.ChangeShapes Go.WideShapes Go.ChangeAt Go.RowKit Go.Deep

theorem cellsFa : Try.prog.cellsOf 81 = 2 := by kernel_rfl
theorem cellsFi : Try.prog.cellsOf 3 = 1 := by kernel_rfl
set_option maxRecDepth 100000 in
theorem opened_moves {H : Type} {enc : TypeId × Value → H} {W : World} {base : Nat} {v : Value} {x : DataW H} {p : List MemPlace} {sp : Nat → Bool} (hv : Value.okWide Try.prog W .any base 33 v)
    (h0 : DataW.Trod enc Try.prog W 0 sp true 33 v x p) : ∃ (a : Option Addr) (ls : List (Int × Int)) (c : Nat), v = .slice a ls.length c ∧ ls.length ≤ maxLen ∧ FRow W a ls := by
  obtain ⟨a0, len0, cap0, rfl⟩ := okWide_slice Try.underlying33 hv
  obtain ⟨fuel, hf⟩ := h0
  rcases open_slice_pairs Try.underlying33 Try.underlying81 cellsFa rfl rfl cellsFi cellsFi hf with ⟨hcs, _⟩ | ⟨a, len, cap, m, n, V0, V1, D0, D1, P0, P1, hcs, _, hl, hcap, hmm, _, hx⟩
  · simp [Value.cells] at hcs
    obtain ⟨rfl, rfl, rfl⟩ := hcs
    exact ⟨none, [], 0, rfl, Nat.zero_le _, Or.inl rfl⟩
  · simp [Value.cells] at hcs
    obtain ⟨rfl, rfl, rfl⟩ := hcs
    have hlm : len0 ≤ m := by rw [hmm]; split <;> omega
    have each : ∀ i, i < len0 → ∃ z : Int × Int, V0 i = .int .i64 z.1 ∧ V1 i = .int .i64 z.2 := by
      intro i hi
      obtain ⟨_, _, t0, t1⟩ := hx i (by omega)
      obtain ⟨z0, e0, _, _⟩ := DataW.trod_int Try.underlying3 t0
      obtain ⟨z1, e1, _, _⟩ := DataW.trod_int Try.underlying3 t1
      simp at e0 e1
      exact ⟨(z0, z1), e0, e1⟩
    obtain ⟨z, hz⟩ := choose_lt each
    have hget : ∀ i, i < len0 → ((List.range len0).map z).getD i (0, 0) = z i := fun i hi => by simp [hi]
    refine ⟨some a, (List.range len0).map z, cap0, by simp, by simp; omega, ?_⟩
    by_cases h : len0 = 0
    · left; subst h; rfl
    · right
      obtain ⟨b, off, spot⟩ := a
      have hc := (hx 0 (by omega)).1
      have hspot : spot = none := by simpa [Addr.add] using World.cell?_spot hc
      subst hspot
      refine ⟨b, off, rfl, World.block_lt_of_cell? W _ hc, ?_⟩
      intro i hi
      simp at hi
      obtain ⟨c0, c1, _, _⟩ := hx i (by omega)
      rw [add_plain] at c0 c1
      rw [hget i hi]
      refine ⟨c0.trans (by rw [(hz i hi).1]), ?_⟩
      rw [← Nat.add_assoc] at c1
      exact c1.trans (by rw [(hz i hi).2])
end Go.Proofs.Ytnjkdfeajlnojaa
namespace Go.Proofs.Ytnjkdfeajlnojaa
open Go.ChangeShapes Go.WideShapes Go.ChangeAt Go.RowKit Go.Deep

/-- A job as it comes in. -/
structure LIn (w : World) (v : Value) (x : Jb.J) : Prop where
  ex : ∃ (a b p r : Option Addr) (c d e t : Nat), v = .agg #[.slice a x.xs.length c, .slice b x.ws.length d, .slice p x.L.length e, .slice r x.M.length t, .int .i64 x.f] ∧ (x.xs.length ≤ maxLen ∧ x.ws.length ≤ maxLen ∧ x.L.length ≤ maxLen ∧ x.M.length ≤ maxLen) ∧ ARow w a x.xs ∧ ARow w b x.ws ∧ FRow w p x.L ∧ FRow w r x.M
theorem cellsJ16 : Try.prog.cellsOf 35 = 5 := by kernel_rfl
theorem cellsS16 : Try.prog.cellsOf 22 = 1 := by kernel_rfl
theorem cellsM16 : Try.prog.cellsOf 33 = 1 := by kernel_rfl
theorem cellsI16 : Try.prog.cellsOf 3 = 1 := by kernel_rfl
theorem trod_struct5 {H : Type} {enc : TypeId × Value → H} {P : Program} {w : World} {base : Nat} {spare : Nat → Bool} {held : Bool} {t : TypeId} {f0 f1 f2 f3 f4 : Field} {fuel : Nat} {cs : List Value} {x : DataW H × List MemPlace} (ht : P.underlying t = some (.struct #[f0, f1, f2, f3, f4])) (h : DataW.trod enc P w base spare held fuel t cs = some x) :
    ∃ y0 y1 y2 y3 y4 n, DataW.trod enc P w base spare held n f0.type ((cs.drop f0.offset).take (P.cellsOf f0.type)) = some y0 ∧ DataW.trod enc P w base spare held n f1.type ((cs.drop f1.offset).take (P.cellsOf f1.type)) = some y1 ∧
      DataW.trod enc P w base spare held n f2.type ((cs.drop f2.offset).take (P.cellsOf f2.type)) = some y2 ∧ DataW.trod enc P w base spare held n f3.type ((cs.drop f3.offset).take (P.cellsOf f3.type)) = some y3 ∧ DataW.trod enc P w base spare held n f4.type ((cs.drop f4.offset).take (P.cellsOf f4.type)) = some y4 := by
  obtain ⟨xs, n, _, rfl, hl, hlen, hf⟩ := DataW.trod_struct ht h
  match xs, hlen with
  | [y0, y1, y2, y3, y4], _ => exact ⟨y0, y1, y2, y3, y4, n, by simpa using hf 0 f0 rfl, by simpa using hf 1 f1 rfl, by simpa using hf 2 f2 rfl, by simpa using hf 3 f3 rfl, by simpa using hf 4 f4 rfl⟩
set_option maxRecDepth 100000 in
theorem opened_mv16 {H : Type} {enc : TypeId × Value → H} {W : World} {fuel : Nat} {v : Value} {x : DataW H × List MemPlace} {sp : Nat → Bool}
    (hf : DataW.trod enc Try.prog W 0 sp true fuel 33 [v] = some x) : ∃ (a : Option Addr) (ls : List (Int × Int)) (c : Nat), v = .slice a ls.length c ∧ ls.length ≤ maxLen ∧ FRow W a ls := by
  rcases open_slice_pairs Try.underlying33 Try.underlying81 cellsFa rfl rfl cellsFi cellsFi hf with ⟨hcs, _⟩ | ⟨a, len, cap, m, n, V0, V1, D0, D1, P0, P1, hcs, _, hl, hcap, hmm, _, hx⟩
  · simp at hcs
    subst hcs
    exact ⟨none, [], 0, rfl, Nat.zero_le _, Or.inl rfl⟩
  · simp at hcs
    subst hcs
    have hlm : len ≤ m := by rw [hmm]; split <;> omega
    have each : ∀ i, i < len → ∃ z : Int × Int, V0 i = .int .i64 z.1 ∧ V1 i = .int .i64 z.2 := by
      intro i hi
      obtain ⟨_, _, t0, t1⟩ := hx i (by omega)
      obtain ⟨z0, e0, _, _⟩ := DataW.trod_int Try.underlying3 t0
      obtain ⟨z1, e1, _, _⟩ := DataW.trod_int Try.underlying3 t1
      simp at e0 e1
      exact ⟨(z0, z1), e0, e1⟩
    obtain ⟨z, hz⟩ := choose_lt each
    have hget : ∀ i, i < len → ((List.range len).map z).getD i (0, 0) = z i := fun i hi => by simp [hi]
    refine ⟨some a, (List.range len).map z, cap, by simp, by simp; omega, ?_⟩
    by_cases h : len = 0
    · left; subst h; rfl
    · right
      obtain ⟨b, off, spot⟩ := a
      have hc := (hx 0 (by omega)).1
      have hspot : spot = none := by simpa [Addr.add] using World.cell?_spot hc
      subst hspot
      refine ⟨b, off, rfl, World.block_lt_of_cell? W _ hc, ?_⟩
      intro i hi
      simp at hi
      obtain ⟨c0, c1, _, _⟩ := hx i (by omega)
      rw [add_plain] at c0 c1
      rw [hget i hi]
      refine ⟨c0.trans (by rw [(hz i hi).1]), ?_⟩
      rw [← Nat.add_assoc] at c1
      exact c1.trans (by rw [(hz i hi).2])
set_option maxRecDepth 100000 in
theorem opened_job {H : Type} {enc : TypeId × Value → H} {W : World} {base : Nat} {v : Value} {x : DataW H} {p : List MemPlace} {sp : Nat → Bool} (hv : Value.okWide Try.prog W .any base 35 v)
    (h0 : DataW.Trod enc Try.prog W 0 sp true 35 v x p) : ∃ y : Jb.J, LIn W v y := by
  obtain ⟨cs, rfl, hsz⟩ := okWide_struct Try.underlying35 hv
  have hcs : cs.size = 5 := hsz.trans cellsJ16
  obtain ⟨c0, c1, c2, c3, c4, rfl⟩ : ∃ c0 c1 c2 c3 c4, cs = #[c0, c1, c2, c3, c4] := by
    obtain ⟨l⟩ := cs
    match l, hcs with
    | [c0, c1, c2, c3, c4], _ => exact ⟨c0, c1, c2, c3, c4, rfl⟩
  obtain ⟨fuel, hf⟩ := h0
  obtain ⟨y0, y1, y2, y3, y4, m, g0, g1, g2, g3, g4⟩ := trod_struct5 Try.underlying35 hf
  simp [Value.cells, cellsS16, cellsI16, cellsM16] at g0 g1 g2 g3 g4
  obtain ⟨a, xs, c, rfl, l0, r0⟩ := opened_ints g0
  obtain ⟨b, ws, d, rfl, l1, r1⟩ := opened_ints g1
  obtain ⟨p2, L, e, rfl, l2, r2⟩ := opened_mv16 g2
  obtain ⟨p3, M, t, rfl, l3, r3⟩ := opened_mv16 g3
  obtain ⟨f, e4, _, _⟩ := DataW.trod_int Try.underlying3 g4
  simp at e4
  subst e4
  exact ⟨⟨xs, ws, L, M, f⟩, a, b, p2, p3, c, d, e, t, rfl, ⟨l0, l1, l2, l3⟩, r0, r1, r2, r3⟩
end Go.Proofs.Ytnjkdfeajlnojaa
