/-
  In one: Ml10, Nd10, Ne10, Nf10, Ng10, Kk16, Kl16, Km16, Mn10, Mo10, Kn16, Ko16, Kp16.
-/
import Derived.Test.YtnjkdfeajlnojaaZ3
import Derived.Test.YtnjkdfeajlnojaaZ1
import Derived.BigQuiet
import Derived.Deep.LoopGhost
import Derived.Test.YtnjkdfeajlnojaaZ2
import Derived.Defers
import Derived.Recover
import Derived.WalkLawsBesides
import Derived.Laws.EntriesVeiled
namespace Go.Proofs.Ytnjkdfeajlnojaa
open Go.RowKit

def homeM (xs ws : List Int) : Option (Int × Int) := (Mx.home xs ws).map fun k => (Ma.idx xs (ws.getD k 0), (k : Int))
def asideM (xs ws : List Int) : Option (Int × Int) := (Mx.aside xs ws).map fun k => ((k : Int), Ma.idx xs 0)
theorem next_h {xs ws : List Int} {m : Int × Int} (h : homeM xs ws = some m) : Mx.nextM xs ws = some m := by
  unfold homeM at h; unfold Mx.nextM
  cases e : Mx.home xs ws with
  | none => rw [e] at h; cases h
  | some k => rw [e] at h; simpa using h
theorem next_a {xs ws : List Int} (h : homeM xs ws = none) : Mx.nextM xs ws = asideM xs ws := by
  unfold homeM at h; unfold Mx.nextM asideM
  cases e : Mx.home xs ws with
  | some k => rw [e] at h; cases h
  | none =>
    cases Mx.aside xs ws <;> rfl
theorem home_is {xs ws : List Int} {n k : Nat} (hw : ws.length = n) (hk : k < n) (h : Mx.homeAt xs ws k = true) (hj : ∀ j, j < k → Mx.homeAt xs ws j = false) : homeM xs ws = some (Ma.idx xs (ws.getD k 0), (k : Int)) := by
  unfold homeM Mx.home; rw [hw, Mx.find_at hk h hj]; rfl
theorem home_no {xs ws : List Int} {n : Nat} (hw : ws.length = n) (hj : ∀ j, j < n → Mx.homeAt xs ws j = false) : homeM xs ws = none := by
  unfold homeM Mx.home; rw [hw, Mx.find_no hj]; rfl
theorem aside_is {xs ws : List Int} {n k : Nat} (hw : xs.length = n) (hk : k < n) (h : Mx.asideAt xs ws k = true) (hj : ∀ j, j < k → Mx.asideAt xs ws j = false) : asideM xs ws = some ((k : Int), Ma.idx xs 0) := by
  unfold asideM Mx.aside; rw [hw, Mx.find_at hk h hj]; rfl
theorem aside_no {xs ws : List Int} {n : Nat} (hw : xs.length = n) (hj : ∀ j, j < n → Mx.asideAt xs ws j = false) : asideM xs ws = none := by
  unfold asideM Mx.aside; rw [hw, Mx.find_no hj]; rfl
def NmP (w : World) (o : Option (Int × Int)) (e : Ending) (w' : World) : Prop := ∃ F T s, e = .returned (.tuple #[.agg #[.int .i64 F, .int .i64 T], .bool s]) ∧ o = (if s then some (F, T) else none) ∧ Below w.heap.size w w'
set_option maxHeartbeats 4000000 in
theorem mh_any {a b : Option Addr} {n c d : Nat} {xs ws : List Int} {w : World} (hx : xs.length = n) (hy : ws.length = n) (hn : n ≤ 1000) (ha : ARow w a xs) (hbw : ARow w b ws) :
    Calls Try.prog 79 #[.agg #[.slice a n c, .slice b n d]] w (NmP w (homeM xs ws)) := by
  have bW1 := below_new w (.cells #[.slice a n c, .slice b n d] 75)
  have bW2 := below_new (w.alloc (.cells #[.slice a n c, .slice b n d] 75)) (.cells #[.int .i64 0, .int .i64 0] 41)
  have hb := bW1.trans (bW2.mono bW1.size)
  have c0 : ((w.alloc (.cells #[.slice a n c, .slice b n d] 75)).alloc (.cells #[.int .i64 0, .int .i64 0] 41)).cell? ⟨w.heap.size, 0, none⟩ = some (.slice a n c) := by simp
  have c1 : ((w.alloc (.cells #[.slice a n c, .slice b n d] 75)).alloc (.cells #[.int .i64 0, .int .i64 0] 41)).cell? ⟨w.heap.size, 1, none⟩ = some (.slice b n d) := by simp
  have r0 : ((w.alloc (.cells #[.slice a n c, .slice b n d] 75)).alloc (.cells #[.int .i64 0, .int .i64 0] 41)).cell? ⟨w.heap.size + 1, 0, none⟩ = some (.int .i64 0) := by simp
  have r1 : ((w.alloc (.cells #[.slice a n c, .slice b n d] 75)).alloc (.cells #[.int .i64 0, .int .i64 0] 41)).cell? ⟨w.heap.size + 1, 1, none⟩ = some (.int .i64 0) := by simp
  have r2 : ((w.alloc (.cells #[.slice a n c, .slice b n d] 75)).alloc (.cells #[.int .i64 0, .int .i64 0] 41)).frozen? ⟨w.heap.size + 1, 0, none⟩ = false := by simp [go_sem]
  have r3 : ((w.alloc (.cells #[.slice a n c, .slice b n d] 75)).alloc (.cells #[.int .i64 0, .int .i64 0] 41)).frozen? ⟨w.heap.size + 1, 1, none⟩ = false := by simp [go_sem]
  obtain ⟨W2, hW2⟩ : ∃ W, W = (w.alloc (.cells #[.slice a n c, .slice b n d] 75)).alloc (.cells #[.int .i64 0, .int .i64 0] 41) := ⟨_, rfl⟩
  rw [← hW2] at hb c0 c1 r0 r1 r2 r3
  have HA := hide (ha.below hb)
  have HBB := hide (hbw.below hb)
  have HB := hide hb
  have HW2 := hide hW2.symm
  obtain ⟨B, hB⟩ : ∃ B, B = w.heap.size := ⟨_, rfl⟩
  rw [← hB] at c0 c1 r0 r1 r2 r3
  have HBe := hide hB.symm
  have HBS := hide fun (W : World) (h : Below w.heap.size w W) (x y : Value) => ((h.setCell (p := ⟨B + 1, 0, none⟩) (by show w.heap.size ≤ B + 1; omega) x).setCell (p := ⟨B + 1, 1, none⟩) (by show w.heap.size ≤ B + 1; omega) y)
  have HX := hide hx
  have HY := hide hy
  clear bW1 bW2 hb hW2 hB ha hbw hx hy
  go_enter Try.func79, Try.ntmps79
  go_upto_region 1 with fail
  rw [HW2.out, HBe.out]
  clear HW2 HBe
  go_wp2_with fail
  go_loop [3, 4, 5, 9] (fun s3 _ _ s => ∃ k : Nat, s3 = .bool false ∧ s = .int .i64 k ∧ k ≤ n ∧ Hid (∀ j, j < k → Mx.homeAt xs ws j = false)) (fun _ _ _ s => n - (intOf s).toNat)
  case atStart => exact ⟨0, rfl, rfl, Nat.zero_le _, hide fun j hj => absurd hj (Nat.not_lt_zero _)⟩
  case round =>
    obtain ⟨k, rfl, rfl, hk, HK⟩ := hrel
    by_cases hlt : k < n
    · obtain ⟨b1, o1, rfl, q1⟩ := HBB.out.at (i := k) (by rw [HY.out]; exact hlt)
      obtain ⟨b2, o2, rfl, q2⟩ := HA.out.at (i := k) (by rw [HX.out]; exact hlt)
      have i0 : (0 : Int) ≤ (k : Int) := by omega
      have i1 : (k : Int) < (n : Int) := by omega
      have HNX := hide fun (h : Mx.homeAt xs ws k = false) => show ∀ j, j < k + 1 → Mx.homeAt xs ws j = false from fun j hj => by
        by_cases e : j = k
        · subst e; exact h
        · exact HK.out j (by omega)
      have HYS := hide fun (h : Mx.homeAt xs ws k = true) => home_is HY.out hlt h HK.out
      have HDF : Hid (Mx.homeAt xs ws k = ((ws.getD k 0 != 0) && (xs.getD k 0 == 0))) := hide rfl
      have HIX := hide (ix_any (w := W2) (c := c) (x := ws.getD k 0) HX.out (by omega) HA.out)
      generalize Ma.idx xs (ws.getD k 0) = J at *
      generalize ws.getD k 0 = g at *
      generalize xs.getD k 0 = x at *
      cases hg : (g != 0)
      · have H1 := hide (HNX.out (by rw [HDF.out, hg]; rfl))
        go_wp2_with fail
        go_round
        case rel => exact ⟨k + 1, rfl, by go_num, by omega, H1⟩
        case measure => simp only [intOf]; omega
      · cases hx0 : (x == 0)
        · have H1 := hide (HNX.out (by rw [HDF.out, hg, hx0]; rfl))
          go_wp2_with fail
          go_round
          case rel => exact ⟨k + 1, rfl, by go_num, by omega, H1⟩
          case measure => simp only [intOf]; omega
        · have H1 := hide (HYS.out (by rw [HDF.out, hg, hx0]; rfl))
          have HFIN := hide (HBS.out _ HB.out (.int .i64 J) (.int .i64 (k : Int)))
          go_wp2_with fail
          refine HIX.out.mono ?_
          rintro e w3 ⟨rfl, hw3⟩
          obtain rfl : W2 = w3 := hw3.symm
          go_wp2_with fail
          exact bodyPost_ret (v := .tuple #[.agg #[.int .i64 J, .int .i64 (k : Int)], .bool true]) (by simp [results, Try.results79, go_sem, *]) rfl ⟨J, (k : Int), true, rfl, H1.out, HFIN.out⟩
    · have hke : k = n := by omega
      subst hke
      have H1 := hide (home_no HY.out HK.out)
      have HFIN := hide (HBS.out _ HB.out (.int .i64 0) (.int .i64 0))
      go_wp2_with fail
      exact bodyPost_ret (v := .tuple #[.agg #[.int .i64 0, .int .i64 0], .bool false]) (by simp [results, Try.results79, go_sem, *]) rfl ⟨0, 0, false, rfl, H1.out, HFIN.out⟩
set_option maxHeartbeats 4000000 in
theorem ma_any {a b : Option Addr} {n c d : Nat} {xs ws : List Int} {w : World} (hx : xs.length = n) (hy : ws.length = n) (hn : n ≤ 1000) (ha : ARow w a xs) (hbw : ARow w b ws) :
    Calls Try.prog 80 #[.agg #[.slice a n c, .slice b n d]] w (NmP w (asideM xs ws)) := by
  have bW1 := below_new w (.cells #[.slice a n c, .slice b n d] 75)
  have bW2 := below_new (w.alloc (.cells #[.slice a n c, .slice b n d] 75)) (.cells #[.int .i64 0, .int .i64 0] 41)
  have hb := bW1.trans (bW2.mono bW1.size)
  have c0 : ((w.alloc (.cells #[.slice a n c, .slice b n d] 75)).alloc (.cells #[.int .i64 0, .int .i64 0] 41)).cell? ⟨w.heap.size, 0, none⟩ = some (.slice a n c) := by simp
  have c1 : ((w.alloc (.cells #[.slice a n c, .slice b n d] 75)).alloc (.cells #[.int .i64 0, .int .i64 0] 41)).cell? ⟨w.heap.size, 1, none⟩ = some (.slice b n d) := by simp
  have r0 : ((w.alloc (.cells #[.slice a n c, .slice b n d] 75)).alloc (.cells #[.int .i64 0, .int .i64 0] 41)).cell? ⟨w.heap.size + 1, 0, none⟩ = some (.int .i64 0) := by simp
  have r1 : ((w.alloc (.cells #[.slice a n c, .slice b n d] 75)).alloc (.cells #[.int .i64 0, .int .i64 0] 41)).cell? ⟨w.heap.size + 1, 1, none⟩ = some (.int .i64 0) := by simp
  have r2 : ((w.alloc (.cells #[.slice a n c, .slice b n d] 75)).alloc (.cells #[.int .i64 0, .int .i64 0] 41)).frozen? ⟨w.heap.size + 1, 0, none⟩ = false := by simp [go_sem]
  have r3 : ((w.alloc (.cells #[.slice a n c, .slice b n d] 75)).alloc (.cells #[.int .i64 0, .int .i64 0] 41)).frozen? ⟨w.heap.size + 1, 1, none⟩ = false := by simp [go_sem]
  obtain ⟨W2, hW2⟩ : ∃ W, W = (w.alloc (.cells #[.slice a n c, .slice b n d] 75)).alloc (.cells #[.int .i64 0, .int .i64 0] 41) := ⟨_, rfl⟩
  rw [← hW2] at hb c0 c1 r0 r1 r2 r3
  have HA := hide (ha.below hb)
  have HBB := hide (hbw.below hb)
  have HB := hide hb
  have HW2 := hide hW2.symm
  obtain ⟨B, hB⟩ : ∃ B, B = w.heap.size := ⟨_, rfl⟩
  rw [← hB] at c0 c1 r0 r1 r2 r3
  have HBe := hide hB.symm
  have HBS := hide fun (W : World) (h : Below w.heap.size w W) (x y : Value) => ((h.setCell (p := ⟨B + 1, 0, none⟩) (by show w.heap.size ≤ B + 1; omega) x).setCell (p := ⟨B + 1, 1, none⟩) (by show w.heap.size ≤ B + 1; omega) y)
  have HX := hide hx
  have HY := hide hy
  clear bW1 bW2 hb hW2 hB ha hbw hx hy
  go_enter Try.func80, Try.ntmps80
  go_upto_region 1 with fail
  rw [HW2.out, HBe.out]
  clear HW2 HBe
  go_wp2_with fail
  go_loopw [3, 4, 8] (fun s3 _ s wr => ∃ (k q : Nat), s3 = .bool false ∧ s = .int .i64 k ∧ k ≤ n ∧ Hid (∀ j, j < k → Mx.asideAt xs ws j = false) ∧ wr = W2.drewN q) (fun _ _ s _ => n - (intOf s).toNat)
  case atStart => exact ⟨0, 0, rfl, rfl, Nat.zero_le _, hide fun j hj => absurd hj (Nat.not_lt_zero _), rfl⟩
  case round =>
    obtain ⟨k, q, rfl, rfl, hk, HK, rfl⟩ := hrel
    by_cases hlt : k < n
    · obtain ⟨b1, o1, rfl, q1⟩ := HBB.out.at (i := k) (by rw [HY.out]; exact hlt)
      obtain ⟨b2, o2, rfl, q2⟩ := HA.out.at (i := k) (by rw [HX.out]; exact hlt)
      have i0 : (0 : Int) ≤ (k : Int) := by omega
      have i1 : (k : Int) < (n : Int) := by omega
      have HNX := hide fun (h : Mx.asideAt xs ws k = false) => show ∀ j, j < k + 1 → Mx.asideAt xs ws j = false from fun j hj => by
        by_cases e : j = k
        · subst e; exact h
        · exact HK.out j (by omega)
      have HYS := hide fun (h : Mx.asideAt xs ws k = true) => aside_is HX.out hlt h HK.out
      have HDF : Hid (Mx.asideAt xs ws k = (xs.getD k 0 != ws.getD k 0)) := hide rfl
      have HIX := hide fun (W : World) (h : ARow W (some ⟨b2, o2, none⟩) xs) => ix_any (w := W) (c := c) (x := 0) HX.out (by omega) h
      generalize Ma.idx xs 0 = J at *
      generalize ws.getD k 0 = g at *
      generalize xs.getD k 0 = x at *
      cases hg : (x != g)
      · have H1 := hide (HNX.out (by rw [HDF.out, hg]))
        go_wp2_with fail
        go_quiet (fail)
        go_wp2_with fail
        go_roundw
        case rel => exact ⟨k + 1, q + nq, rfl, by go_num, by omega, H1, rfl⟩
        case measure => simp only [intOf]; omega
      · have H1 := hide (HYS.out (by rw [HDF.out, hg]))
        go_wp2_with fail
        go_quiet (fail)
        have k0 : ((W2.drewN q).drewN nq).cell? ⟨B, 0, none⟩ = some _ := c0
        have k2 : ((W2.drewN q).drewN nq).cell? ⟨B + 1, 0, none⟩ = some _ := r0
        have k3 : ((W2.drewN q).drewN nq).cell? ⟨B + 1, 1, none⟩ = some _ := r1
        have k4 : ((W2.drewN q).drewN nq).frozen? ⟨B + 1, 0, none⟩ = false := r2
        have k5 : ((W2.drewN q).drewN nq).frozen? ⟨B + 1, 1, none⟩ = false := r3
        have HFI2 := hide (HBS.out _ (below_drewN (below_drewN HB.out q) nq) (.int .i64 (k : Int)) (.int .i64 J))
        have HIZ := hide (HIX.out ((W2.drewN q).drewN nq) (show ARow ((W2.drewN q).drewN nq) _ xs from HA.out))
        generalize (W2.drewN q).drewN nq = W3 at *
        go_wp2_with fail
        refine HIZ.out.mono ?_
        rintro e w3 ⟨rfl, hw3⟩
        obtain rfl : W3 = w3 := hw3.symm
        go_wp2_with fail
        exact bodyPost_ret (v := .tuple #[.agg #[.int .i64 (k : Int), .int .i64 J], .bool true]) (by simp [results, Try.results80, go_sem, *]) rfl ⟨(k : Int), J, true, rfl, H1.out, HFI2.out⟩
    · have hke : k = n := by omega
      subst hke
      have H1 := hide (aside_no HX.out HK.out)
      have HFIN := hide (HBS.out _ (below_drewN HB.out q) (.int .i64 0) (.int .i64 0))
      go_wp2_with fail
      exact bodyPost_ret (v := .tuple #[.agg #[.int .i64 0, .int .i64 0], .bool false]) (by simp [results, Try.results80, go_sem, *]) rfl ⟨0, 0, false, rfl, H1.out, HFIN.out⟩
end Go.Proofs.Ytnjkdfeajlnojaa
namespace Go.Proofs.Ytnjkdfeajlnojaa
open Go.RowKit

set_option maxHeartbeats 4000000 in
theorem ie_any {a b : Option Addr} {n k c d : Nat} {xs ws : List Int} {w : World} (hx : xs.length = n) (hy : ws.length = n) (hk : k < n) (ha : ARow w a xs) (hbw : ARow w b ws) :
    Calls Try.prog 92 #[.agg #[.slice a n c, .slice b n d], .int .i64 (k : Int)] w fun e w' => e = .returned (.bool ((xs.getD k 0 != 0) && (xs.getD k 0 != ws.getD k 0))) ∧ Below w.heap.size w w' := by
  have hb := below_new w (.cells #[.slice a n c, .slice b n d] 75)
  have c0 : (w.alloc (.cells #[.slice a n c, .slice b n d] 75)).cell? ⟨w.heap.size, 0, none⟩ = some (.slice a n c) := by simp
  have c1 : (w.alloc (.cells #[.slice a n c, .slice b n d] 75)).cell? ⟨w.heap.size, 1, none⟩ = some (.slice b n d) := by simp
  obtain ⟨W2, hW2⟩ : ∃ W, W = w.alloc (.cells #[.slice a n c, .slice b n d] 75) := ⟨_, rfl⟩
  rw [← hW2] at hb c0 c1
  obtain ⟨b1, o1, rfl, q1⟩ := (hbw.below hb).at (i := k) (by rw [hy]; exact hk)
  obtain ⟨b2, o2, rfl, q2⟩ := (ha.below hb).at (i := k) (by rw [hx]; exact hk)
  have HB := hide hb
  have HBQ := hide fun (q : Nat) => below_drewN hb q
  have HW2 := hide hW2.symm
  obtain ⟨B, hB⟩ : ∃ B, B = w.heap.size := ⟨_, rfl⟩
  rw [← hB] at c0 c1
  have HBe := hide hB.symm
  have i0 : (0 : Int) ≤ (k : Int) := by omega
  have i1 : (k : Int) < (n : Int) := by omega
  clear hb hW2 hB ha hbw hx hy
  generalize ws.getD k 0 = g at *
  generalize xs.getD k 0 = x at *
  go_enter Try.func92, Try.ntmps92
  go_upto_region 1 with fail
  rw [HW2.out, HBe.out]
  clear HW2 HBe
  cases h0 : (x != 0)
  · go_wp2_with fail
    go_quiet (fail)
    go_wp2_with fail
    go_ret
    exact ⟨by rw [h0]; rfl, HBQ.out _⟩
  · cases h1 : (x != g)
    · go_wp2_with fail
      go_quiet (fail)
      go_wp2_with fail
      go_ret
      exact ⟨by rw [h0, h1]; rfl, HBQ.out _⟩
    · go_wp2_with fail
      go_quiet (fail)
      go_wp2_with fail
      go_ret
      exact ⟨by rw [h0, h1]; rfl, HBQ.out _⟩
theorem idx_nxt {xs ws : List Int} {n p : Nat} (hy : ws.length = n) (h2 : Mv.Two n (Mx.fn xs) (Mx.fn ws)) (hp : p < n) (ha : Mv.Away (Mx.fn xs) (Mx.fn ws) p) : ∃ q : Nat, Mv.nxt n (Mx.fn xs) (Mx.fn ws) p = some q ∧ Ma.idx ws (xs.getD p 0) = (q : Int) ∧ q < n := by
  obtain ⟨j, hj, ej⟩ := h2.ab p hp ha.1
  obtain ⟨f, e1, hf, e2⟩ := Mx.idx_is hy hj ej
  refine ⟨f, ?_, e1, hf⟩
  rw [Mv.nxt_of hp ha, Mv.spot_uniq h2.sb hf ha.1 e2]
/-- How a walk from k stands, and how it goes on. -/
structure BR (n k K gk t p : Nat) (xs ws : List Int) : Prop where
  bw : Mv.Bw (Mv.nxt n (Mx.fn xs) (Mx.fn ws)) k t p
  lt : p < n
  sum : t + gk = K
theorem br_start {xs ws : List Int} {n k : Nat} (hy : ws.length = n) (h2 : Mv.Two n (Mx.fn xs) (Mx.fn ws)) (hk : k < n) (ha : Mv.Away (Mx.fn xs) (Mx.fn ws) k) : ∃ K gk q : Nat, (∀ x, Mv.it (Mv.nxt n (Mx.fn xs) (Mx.fn ws)) K k = some x → (0 < K ∧ x = k) ∨ Mv.nxt n (Mx.fn xs) (Mx.fn ws) x = none) ∧ Ma.idx ws (xs.getD k 0) = (q : Int) ∧ BR n k K gk 1 q xs ws := by
  obtain ⟨K, hK⟩ := Mv.stop_of (n := n) (Mv.nxt_inj h2) (fun i x e => (Mv.nxt_some e).1) k
  obtain ⟨q, e1, e2, hq⟩ := idx_nxt hy h2 hk ha
  have h0 : 0 < K := by
    apply Nat.pos_of_ne_zero
    rintro rfl
    rcases hK k rfl with ⟨h, _⟩ | h
    · omega
    · rw [e1] at h; cases h
  exact ⟨K, K - 1, q, hK, e2, Mv.Bw.start e1, hq, by omega⟩
theorem br_step {xs ws : List Int} {n k K gk t p : Nat} (hy : ws.length = n) (h2 : Mv.Two n (Mx.fn xs) (Mx.fn ws)) (hK : ∀ x, Mv.it (Mv.nxt n (Mx.fn xs) (Mx.fn ws)) K k = some x → (0 < K ∧ x = k) ∨ Mv.nxt n (Mx.fn xs) (Mx.fn ws) x = none) (h : BR n k K gk t p xs ws) (hp : k < p) (h0 : xs.getD p 0 ≠ 0) : ∃ q : Nat, Ma.idx ws (xs.getD p 0) = (q : Int) ∧ 0 < gk ∧ BR n k K (gk - 1) (t + 1) q xs ws := by
  obtain ⟨t', rfl⟩ : ∃ t', t = t' + 1 := ⟨t - 1, by have := h.bw.pos; omega⟩
  obtain ⟨a, _, ha⟩ := Mv.it_prev h.bw.now
  have haw := Mv.away_to h2 ha h0
  obtain ⟨q, e1, e2, hq⟩ := idx_nxt hy h2 h.lt haw
  have hs := h.sum
  have hg : 0 < gk := by
    apply Nat.pos_of_ne_zero
    rintro rfl
    rcases hK p (by rw [← hs]; exact h.bw.now) with ⟨_, e⟩ | e
    · omega
    · rw [e1] at e; cases e
  exact ⟨q, e2, hg, h.bw.step hp e1, hq, by omega⟩
theorem br_end {xs ws : List Int} {n k K gk t p : Nat} (h : BR n k K gk t p xs ws) (hp : ¬ k < p) : (((p : Int) == (k : Int)) = true) ↔ Mv.Lead (Mv.nxt n (Mx.fn xs) (Mx.fn ws)) k := by
  by_cases e : p = k
  · subst e; simp; exact h.bw.yes
  · have h1 : ¬ ((p : Int) == (k : Int)) = true := by simp; omega
    exact ⟨fun h' => absurd h' h1, fun h' => absurd h' (h.bw.low (by omega))⟩
theorem br_out {xs ws : List Int} {n k K gk t p : Nat} (h : BR n k K gk t p xs ws) (hp : k < p) (h0 : xs.getD p 0 = 0) : (((p : Int) == (k : Int)) = true) ↔ Mv.Lead (Mv.nxt n (Mx.fn xs) (Mx.fn ws)) k := by
  have h1 : ¬ ((p : Int) == (k : Int)) = true := by simp; omega
  refine ⟨fun h' => absurd h' h1, fun h' => absurd h' (h.bw.out (Mv.nxt_none fun e => ?_))⟩
  have h2 : 0 < xs.getD p 0 := e.2.1
  omega
set_option maxHeartbeats 4000000 in
theorem br_any {a b : Option Addr} {n k c d : Nat} {xs ws : List Int} {w : World} (hx : xs.length = n) (hy : ws.length = n) (hk : k < n) (hn : n ≤ 1000) (h2 : Mv.Two n (Mx.fn xs) (Mx.fn ws)) (haw : Mv.Away (Mx.fn xs) (Mx.fn ws) k) (ha : ARow w a xs) (hbw : ARow w b ws) :
    Calls Try.prog 93 #[.agg #[.slice a n c, .slice b n d], .int .i64 (k : Int)] w fun e w' => ∃ r : Bool, e = .returned (.bool r) ∧ (r = true ↔ Mv.Lead (Mv.nxt n (Mx.fn xs) (Mx.fn ws)) k) ∧ Below w.heap.size w w' := by
  have hb := below_new w (.cells #[.slice a n c, .slice b n d] 75)
  have c0 : (w.alloc (.cells #[.slice a n c, .slice b n d] 75)).cell? ⟨w.heap.size, 0, none⟩ = some (.slice a n c) := by simp
  have c1 : (w.alloc (.cells #[.slice a n c, .slice b n d] 75)).cell? ⟨w.heap.size, 1, none⟩ = some (.slice b n d) := by simp
  obtain ⟨W2, hW2⟩ : ∃ W, W = w.alloc (.cells #[.slice a n c, .slice b n d] 75) := ⟨_, rfl⟩
  rw [← hW2] at hb c0 c1
  obtain ⟨b2, o2, rfl, q2⟩ := (ha.below hb).at (i := k) (by rw [hx]; exact hk)
  have HA := hide (ha.below hb)
  have HX := hide hx
  have HBQ := hide fun (q : Nat) => below_drewN hb q
  have hrow := hbw.below hb
  have HIX := hide fun (q : Nat) (x : Int) => ix_any (w := W2.drewN q) (c := d) (x := x) hy (by omega) (show ARow (W2.drewN q) b ws from hrow)
  obtain ⟨K, gk0, p0, hK, e0, hbr⟩ := br_start hy h2 hk haw
  have HK := hide hK
  have HR := hide hbr
  have HY := hide hy
  have HT := hide h2
  have HW2 := hide hW2.symm
  obtain ⟨B, hB⟩ : ∃ B, B = w.heap.size := ⟨_, rfl⟩
  rw [← hB] at c0 c1
  have HBe := hide hB.symm
  have i0 : (0 : Int) ≤ (k : Int) := by omega
  have i1 : (k : Int) < (n : Int) := by omega
  have HI0 := HIX.out 0 (xs.getD k 0)
  rw [e0] at HI0
  have HIF := hide fun (q : Nat) => (e0 ▸ HIX.out q (xs.getD k 0) : Calls Try.prog 94 #[.slice b n d, .int .i64 (xs.getD k 0)] (W2.drewN q) fun e w' => e = .returned (.int .i64 (p0 : Int)) ∧ w' = W2.drewN q)
  clear hb hW2 hB ha hbw hx hy hrow hK hbr HI0 e0 h2 haw
  go_enter Try.func93, Try.ntmps93
  go_upto_region 1 with fail
  rw [HW2.out, HBe.out]
  clear HW2 HBe
  generalize xs.getD k 0 = x0 at *
  go_wp2_with fail
  go_quiet ((go_at_call 94; exact Calls.quiet_of_same (HIF.out _)))
  go_wp2_with fail
  go_loopg [5] gk0 (fun gk s5 wr => ∃ (p t q : Nat), s5 = .int .i64 p ∧ Hid (BR n k K gk t p xs ws) ∧ wr = W2.drewN q)
  case atStart => exact ⟨p0, 1, _, rfl, HR, rfl⟩
  case round =>
    obtain ⟨p, t, q, rfl, HR1, rfl⟩ := hrel
    have hpn := HR1.out.lt
    have j0 : (0 : Int) ≤ (p : Int) := by omega
    have j1 : (p : Int) < (n : Int) := by omega
    have q3 : W2.cell? ⟨b2, o2 + p, none⟩ = some (.int .i64 (xs.getD p 0)) := by
      obtain ⟨_, _, e, q⟩ := HA.out.at (i := p) (by rw [HX.out]; exact hpn)
      cases e; exact q
    by_cases hkp : k < p
    · have hkp' : (k : Int) < (p : Int) := by omega
      by_cases h0 : xs.getD p 0 = 0
      · have HE := hide (br_out HR1.out hkp h0)
        rw [h0] at q3
        clear h0
        go_wp2_with fail
        go_ret
        exact ⟨_, rfl, HE.out, HBQ.out _⟩
      · obtain ⟨p1, e1, hg, hr1⟩ := br_step HY.out HT.out HK.out HR1.out hkp h0
        have HR2 := hide hr1
        have HIG := hide fun (m : Nat) => (e1 ▸ HIX.out m (xs.getD p 0) : Calls Try.prog 94 #[.slice b n d, .int .i64 (xs.getD p 0)] (W2.drewN m) fun e w' => e = .returned (.int .i64 (p1 : Int)) ∧ w' = W2.drewN m)
        generalize xs.getD p 0 = x at *
        have hx0 : (x != 0) = true := bne_iff_ne.2 h0
        clear hr1 e1
        go_wp2_with fail
        go_quiet ((go_at_call 94; exact (HIG.out _).mono fun _ _ h => ⟨h.1, _, h.2⟩))
        go_wp2_with fail
        go_roundg (gk - 1)
        case measure => omega
        case rel => exact ⟨p1, t + 1, q + nq, rfl, HR2, by first | rfl | simp | simp [go_sem]⟩
    · have hd : decide ((k : Int) < (p : Int)) = false := by simp; omega
      have HE := hide (br_end HR1.out hkp)
      go_wp2_with fail
      go_ret
      exact ⟨_, rfl, HE.out, HBQ.out _⟩
end Go.Proofs.Ytnjkdfeajlnojaa
namespace Go.Proofs.Ytnjkdfeajlnojaa
open Go.RowKit

/-- How many are elsewhere, and how many rings. -/
def AR (k n : Nat) (xs ws : List Int) (A R : Nat) : Prop := Mv.Is k (Mv.Away (Mx.fn xs) (Mx.fn ws)) A ∧ Mv.Is k (Mv.Lead (Mv.nxt n (Mx.fn xs) (Mx.fn ws))) R
theorem away_b {xs ws : List Int} {n k : Nat} (h2 : Mv.Two n (Mx.fn xs) (Mx.fn ws)) (hk : k < n) : ((xs.getD k 0 != 0) && (xs.getD k 0 != ws.getD k 0)) = true ↔ Mv.Away (Mx.fn xs) (Mx.fn ws) k := by
  have h := h2.sa.ge k hk
  have h' : 0 ≤ xs.getD k 0 := h
  simp only [Bool.and_eq_true, bne_iff_ne, ne_eq]
  exact ⟨fun ⟨h1, h3⟩ => ⟨show 0 < xs.getD k 0 by omega, fun e => h3 e.symm⟩, fun ⟨h1, h3⟩ => ⟨fun e => by have h1' : 0 < xs.getD k 0 := h1; omega, fun e => h3 e.symm⟩⟩
set_option maxHeartbeats 400000 in
theorem ro_no {a b : Option Addr} {n m c d : Nat} {xs ws : List Int} {w : World} (HX : Hid (xs.length = n)) (HY : Hid (ws.length = m)) (hc : n ≤ c) (hd : m ≤ d) (HA : Hid (ARow w a xs)) (HB : Hid (ARow w b ws)) (HG : Hid (Mx.sameB xs ws = false)) :
    Calls Try.prog 78 #[.slice a n c, .slice b m d] w fun e w' => e = .returned (.tuple #[.int .i64 0, .int .i64 0, .bool false]) ∧ Below w.heap.size w w' := by
  go_enter Try.func78, Try.ntmps78
  go_wp2_with fail
  refine (asg_eq HX HY hc hd HA HB HG).mono ?_
  rintro e w1 ⟨rfl, hb1⟩
  have HB1 := hide hb1
  clear hb1
  go_wp2_with fail
  exact bodyPost_ret (v := .tuple #[.int .i64 0, .int .i64 0, .bool false]) (by simp [results, Try.results78, go_sem, *]) rfl ⟨rfl, HB1.out⟩
set_option maxHeartbeats 4000000 in
theorem ro_yes {a b : Option Addr} {n c d : Nat} {xs ws : List Int} {w : World} (HX : Hid (xs.length = n)) (HY : Hid (ws.length = n)) (hn : n ≤ 9) (hc : n ≤ c) (hd : n ≤ d) (HA : Hid (ARow w a xs)) (HB : Hid (ARow w b ws)) (HG : Hid (Mx.sameB xs ws = true)) (HT : Hid (Mv.Two n (Mx.fn xs) (Mx.fn ws))) :
    Calls Try.prog 78 #[.slice a n c, .slice b n d] w fun e w' => ∃ A R : Nat, e = .returned (.tuple #[.int .i64 A, .int .i64 R, .bool true]) ∧ AR n n xs ws A R ∧ Below w.heap.size w w' := by
  go_enter Try.func78, Try.ntmps78
  go_wp2_with fail
  refine (asg_eq HX HY hc hd HA HB HG).mono ?_
  rintro e w1 ⟨rfl, hb1⟩
  have HB1 := hide hb1
  clear hb1
  go_wp2_with fail
  go_loopw [8, 9, 10, 20] (fun s8 s9 _ s wr => ∃ (k e r : Nat), s8 = .int .i64 e ∧ s9 = .int .i64 r ∧ s = .int .i64 k ∧ k ≤ n ∧ Hid (AR k n xs ws e r) ∧ Hid (PBox wr w1.heap.size (.slice a n c) (.slice b n d)) ∧ Hid (Below w.heap.size w wr)) (fun _ _ _ s _ => n - (intOf s).toNat)
  case atStart => exact ⟨0, 0, 0, rfl, rfl, rfl, Nat.zero_le _, hide ⟨Mv.Is.zero _, Mv.Is.zero _⟩, hide (PBox.new _ _ _ _), hide (HB1.out.trans ((below_new _ _).mono HB1.out.size))⟩
  case round =>
    obtain ⟨k, e, r, rfl, rfl, rfl, hk, HR, HPX, HBr⟩ := hrel
    have he := HR.out.1.le
    have hr := HR.out.2.le
    by_cases hlt : k < n
    · have x0 := HPX.out.1
      have x1 := HPX.out.2.1
      have HIE := hide (ie_any (w := wr) (c := c) (d := d) HX.out HY.out hlt (HA.out.below HBr.out) (HB.out.below HBr.out))
      have HAW := hide (away_b HT.out hlt)
      generalize ((xs.getD k 0 != 0) && (xs.getD k 0 != ws.getD k 0)) = bb at *
      go_wp2_with fail
      refine HIE.out.mono ?_
      rintro z w3 ⟨rfl, hb3⟩
      have HP3 := hide (HPX.out.below hb3)
      have HB3 := hide (HBr.out.trans (hb3.mono HBr.out.size))
      have HAR := hide (HA.out.below HB3.out)
      have HBR := hide (HB.out.below HB3.out)
      clear hb3 HIE x0 x1
      cases bb
      · have hna : ¬ Mv.Away (Mx.fn xs) (Mx.fn ws) k := fun h => Bool.noConfusion (HAW.out.2 h)
        have HR2 : Hid (AR (k + 1) n xs ws e r) := hide ⟨HR.out.1.no hna, HR.out.2.no fun h => hna (Mv.lead_away h)⟩
        clear hna
        go_wp2_with fail
        go_roundw
        case rel => exact ⟨k + 1, e, r, rfl, rfl, by go_num, by omega, HR2, HP3, HB3⟩
        case measure => simp only [intOf]; omega
      · have haw := HAW.out.1 rfl
        have HAY := hide haw
        have y0 := HP3.out.1
        have y1 := HP3.out.2.1
        have HBE := hide (br_any (w := w3) (c := c) (d := d) HX.out HY.out hlt (by omega) HT.out haw HAR.out HBR.out)
        clear haw
        go_wp2_with fail
        refine HBE.out.mono ?_
        rintro z w4 ⟨q, rfl, hq, hb4⟩
        have HP4 := hide (HP3.out.below hb4)
        have HB4 := hide (HB3.out.trans (hb4.mono HB3.out.size))
        have HQ := hide hq
        clear hb4 hq HBE y0 y1
        cases q
        · have HR2 : Hid (AR (k + 1) n xs ws (e + 1) r) := hide ⟨HR.out.1.yes HAY.out, HR.out.2.no fun h => Bool.noConfusion (HQ.out.2 h)⟩
          go_wp2_with fail
          go_roundw
          case rel => exact ⟨k + 1, e + 1, r, by go_num, rfl, by go_num, by omega, HR2, HP4, HB4⟩
          case measure => simp only [intOf]; omega
        · have HR2 : Hid (AR (k + 1) n xs ws (e + 1) (r + 1)) := hide ⟨HR.out.1.yes HAY.out, HR.out.2.yes (HQ.out.1 rfl)⟩
          go_wp2_with fail
          go_roundw
          case rel => exact ⟨k + 1, e + 1, r + 1, by go_num, by go_num, by go_num, by omega, HR2, HP4, HB4⟩
          case measure => simp only [intOf]; omega
    · have hke : k = n := by omega
      subst hke
      go_wp2_with fail
      exact bodyPost_ret (v := .tuple #[.int .i64 e, .int .i64 r, .bool true]) (by simp [results, Try.results78, go_sem, *]) rfl ⟨e, r, rfl, HR.out, HBr.out⟩
end Go.Proofs.Ytnjkdfeajlnojaa
namespace Go.Proofs.Ytnjkdfeajlnojaa
open Go.RowKit

abbrev nx (n : Nat) (xs ws : List Int) : Mv.PF := Mv.nxt n (Mx.fn xs) (Mx.fn ws)
/-- How the marking walk from k stands. -/
structure In (n k K gk t i r r' : Nat) (xs ws : List Int) (m l : List Bool) : Prop where
  sw : Mv.Sw n (nx n xs ws) k t i m l
  lt : i < n
  sum : t + gk = K
  rr : (0 < t ∧ i = k ∧ r' = r + 1) ∨ (¬ (0 < t ∧ i = k) ∧ r' = r)
def Stp (n k K : Nat) (xs ws : List Int) : Prop := ∀ x, Mv.it (nx n xs ws) K k = some x → (0 < K ∧ x = k) ∨ nx n xs ws x = none
theorem in_start {n k r : Nat} {xs ws : List Int} {m : List Bool} (h2 : Mv.Two n (Mx.fn xs) (Mx.fn ws)) (hm : m.length = n) (hk : k < n) : ∃ K, Stp n k K xs ws ∧ In n k K K 0 k r r xs ws m m := by
  obtain ⟨K, hK⟩ := Mv.stop_of (n := n) (Mv.nxt_inj h2) (fun i x e => (Mv.nxt_some e).1) k
  exact ⟨K, hK, Mv.Sw.start hm, hk, by omega, Or.inr ⟨fun h => by omega, rfl⟩⟩
theorem in_step {n k K gk t i r r' : Nat} {xs ws : List Int} {m l : List Bool} (hy : ws.length = n) (h2 : Mv.Two n (Mx.fn xs) (Mx.fn ws)) (hK : Stp n k K xs ws) (h : In n k K gk t i r r' xs ws m l) (hl : l.getD i true = false) (ha : Mv.Away (Mx.fn xs) (Mx.fn ws) i) : ∃ q : Nat, Ma.idx ws (xs.getD i 0) = (q : Int) ∧ 0 < gk ∧ r' = r ∧ ∀ r2, (q = k → r2 = r + 1) → (q ≠ k → r2 = r) → In n k K (gk - 1) (t + 1) q r r2 xs ws m (l.set i true) := by
  obtain ⟨q, e1, e2, hq⟩ := idx_nxt hy h2 h.lt ha
  have hno : ¬ (0 < t ∧ i = k) := fun ⟨h0, e⟩ => by
    have := (h.sw.marks i h.lt).2 (Or.inr ⟨0, h0, by rw [e]; rfl⟩)
    rw [hl] at this; cases this
  have hs := h.sum
  have hg : 0 < gk := by
    apply Nat.pos_of_ne_zero
    rintro rfl
    rcases hK i (by rw [← hs]; exact h.sw.now) with ⟨h0, e⟩ | e
    · exact hno ⟨by omega, e⟩
    · rw [show nx n xs ws i = some q from e1] at e; cases e
  refine ⟨q, e2, hg, ?_, fun r2 h3 h4 => ⟨h.sw.step h.lt hl e1, hq, by omega, ?_⟩⟩
  · rcases h.rr with ⟨a, b, _⟩ | ⟨_, e⟩
    · exact absurd ⟨a, b⟩ hno
    · exact e
  · by_cases e : q = k
    · exact Or.inl ⟨by omega, e, h3 e⟩
    · exact Or.inr ⟨fun h => e h.2, h4 e⟩
theorem in_end {n k K gk t i r r' : Nat} {xs ws : List Int} {m l : List Bool} (h2 : Mv.Two n (Mx.fn xs) (Mx.fn ws)) (hk : k < n) (hm : Mv.Mk n (nx n xs ws) k m) (hr : Mv.Is k (Mv.Lead (nx n xs ws)) r) (h : In n k K gk t i r r' xs ws m l) (hs : l.getD i true = true ∨ ¬ Mv.Away (Mx.fn xs) (Mx.fn ws) i) : l.length = n ∧ Mv.Mk n (nx n xs ws) (k + 1) l ∧ Mv.Is (k + 1) (Mv.Lead (nx n xs ws)) r' := by
  obtain ⟨h3, h4⟩ := Mv.Sw.fin (Mv.nxt_inj h2) hk h.lt hm h.sw (hs.imp id fun e => Mv.nxt_none fun e' => e e'.2)
  refine ⟨h.sw.len, h3, ?_⟩
  rcases h.rr with ⟨a, b, e⟩ | ⟨a, e⟩
  · rw [e]; exact hr.yes (h4.2 ⟨a, b⟩)
  · rw [e]; exact hr.no fun h => a (h4.1 h)
theorem mk_zero (n : Nat) (s : Mv.PF) : Mv.Mk n s 0 (List.replicate n false) := fun x hx => by
  refine ⟨fun h => ?_, fun ⟨_, j, hj, _⟩ => by omega⟩
  simp [hx] at h
set_option maxHeartbeats 4000000 in
theorem lr_any {a b : Option Addr} {n c d : Nat} {xs ws : List Int} {w : World} (hn : n ≤ 9) (HX : Hid (xs.length = n)) (HY : Hid (ws.length = n)) (HA : Hid (ARow w a xs)) (HB : Hid (ARow w b ws)) (HT : Hid (Mv.Two n (Mx.fn xs) (Mx.fn ws))) :
    Calls Try.prog 56 #[.slice a n c, .slice b n d] w fun e w' => ∃ A R : Nat, e = .returned (.tuple #[.int .i64 A, .int .i64 R]) ∧ AR n n xs ws A R ∧ Below w.heap.size w w' := by
  have hmk := makeB_run n (by omega)
  have HM := hide (madeB_own w n (by omega))
  have hbn := below_new w (.cells (madeCells #[.bool false] n) 4)
  obtain ⟨W2, hW2⟩ : ∃ W, W = w.alloc (.cells (madeCells #[.bool false] n) 4) := ⟨_, rfl⟩
  have hmo := HM.out
  rw [← hW2] at hbn hmo
  have HMO := hide hmo
  have HBN := hide hbn
  have HAR := hide (HA.out.below hbn)
  have HBR := hide (HB.out.below hbn)
  have HW2 := hide hW2.symm
  clear HM hmo hbn hW2
  go_enter Try.func56, Try.ntmps56
  go_wp2_with fail
  rw [HW2.out]
  clear hmk HW2
  go_loop [6, 9, 10, 18] (fun s6 _ _ s => ∃ (k e : Nat), s6 = .int .i64 e ∧ s = .int .i64 k ∧ k ≤ n ∧ Hid (Mv.Is k (Mv.Away (Mx.fn xs) (Mx.fn ws)) e)) (fun _ _ _ s => n - (intOf s).toNat)
  case atStart => exact ⟨0, 0, rfl, rfl, Nat.zero_le _, hide (Mv.Is.zero _)⟩
  case round =>
    obtain ⟨k, e, rfl, rfl, hk, HI⟩ := hrel
    have he := HI.out.le
    by_cases hlt : k < n
    · obtain ⟨b1, o1, rfl, q1⟩ := HBR.out.at (i := k) (by rw [HY.out]; exact hlt)
      obtain ⟨b2, o2, rfl, q2⟩ := HAR.out.at (i := k) (by rw [HX.out]; exact hlt)
      have i0 : (0 : Int) ≤ (k : Int) := by omega
      have i1 : (k : Int) < (n : Int) := by omega
      have HAW : Hid ((0 < xs.getD k 0 ∧ ws.getD k 0 ≠ xs.getD k 0) ↔ Mv.Away (Mx.fn xs) (Mx.fn ws) k) := hide Iff.rfl
      generalize ws.getD k 0 = g at *
      generalize xs.getD k 0 = x at *
      by_cases hg : 0 < x
      · cases hx0 : (g != x)
        · have H1 := hide (HI.out.no fun h => by have := (HAW.out.2 h).2; rw [← bne_iff_ne, hx0] at this; cases this)
          go_wp2_with fail
          go_round
          case rel => exact ⟨k + 1, e, rfl, by go_num, by omega, H1⟩
          case measure => simp only [intOf]; omega
        · have H1 := hide (HI.out.yes (HAW.out.1 ⟨hg, bne_iff_ne.1 hx0⟩))
          go_wp2_with fail
          go_round
          case rel => exact ⟨k + 1, e + 1, by go_num, by go_num, by omega, H1⟩
          case measure => simp only [intOf]; omega
      · have H1 := hide (HI.out.no fun h => hg (HAW.out.2 h).1)
        go_wp2_with fail
        go_round
        case rel => exact ⟨k + 1, e, rfl, by go_num, by omega, H1⟩
        case measure => simp only [intOf]; omega
    · have hke : k = n := by omega
      subst hke
      go_wp2_with fail
      go_loopw [7, 11, 12, 38] (fun s7 _ _ s wr => ∃ (j r : Nat) (m : List Bool), s7 = .int .i64 r ∧ s = .int .i64 j ∧ j ≤ k ∧ m.length = k ∧ Hid (Mv.Mk k (nx k xs ws) j m) ∧ Hid (Mv.Is j (Mv.Lead (nx k xs ws)) r) ∧ Hid (wr.ownsRow w.heap.size 4 1 (.slice (some ⟨w.heap.size, 0, none⟩) k k) k (bls m)) ∧ Hid (Below w.heap.size w wr)) (fun _ _ _ s _ => k - (intOf s).toNat)
      case atStart => exact ⟨0, 0, List.replicate k false, rfl, rfl, Nat.zero_le _, by simp, hide (mk_zero _ _), hide (Mv.Is.zero _), HMO, HBN⟩
      case round =>
        obtain ⟨j, r, m, rfl, rfl, hj, hm, HMK, HIS, HO, HBW⟩ := hrel
        have hr := HIS.out.le
        by_cases hjl : j < k
        · obtain ⟨K, hst, hin⟩ := in_start (r := r) HT.out hm hjl
          have HST := hide hst
          have HIN := hide hin
          have k0 : (0 : Int) ≤ (j : Int) := by omega
          clear hst hin
          go_wp2_with fail
          go_loopg [7, 12] K (fun gk s7 s12 wi => ∃ (i t q : Nat) (l : List Bool), s7 = .int .i64 q ∧ s12 = .int .i64 i ∧ q ≤ 10 ∧ Hid (In k j K gk t i r q xs ws m l) ∧ Hid (wi.ownsRow w.heap.size 4 1 (.slice (some ⟨w.heap.size, 0, none⟩) k k) k (bls l)) ∧ Hid (Below w.heap.size w wi))
          case atStart => exact ⟨j, 0, r, m, rfl, rfl, by omega, HIN, HO, HBW⟩
          case round =>
            obtain ⟨i, t, q, l, rfl, rfl, hq, HN, HOI, HBI⟩ := hrel
            have hil := HN.out.lt
            have j0 : (0 : Int) ≤ (i : Int) := by omega
            have j1 : (i : Int) < (k : Int) := by omega
            have hll := HN.out.sw.len
            have c0 : wr.cell? ⟨w.heap.size, i, none⟩ = some (.bool (l.getD i true)) := by
              rw [HOI.out.cellAt i (by rw [Nat.mul_one]; exact hil), bls_get _ i (by rw [hll]; exact hil) true]
            obtain ⟨b1, o1, rfl, q1⟩ := (HB.out.below HBI.out).at (i := i) (by rw [HY.out]; exact hil)
            obtain ⟨b2, o2, rfl, q2⟩ := (HA.out.below HBI.out).at (i := i) (by rw [HX.out]; exact hil)
            have HAW : Hid ((0 < xs.getD i 0 ∧ ws.getD i 0 ≠ xs.getD i 0) ↔ Mv.Away (Mx.fn xs) (Mx.fn ws) i) := hide Iff.rfl
            have HEN := hide fun (h : l.getD i true = true ∨ ¬ Mv.Away (Mx.fn xs) (Mx.fn ws) i) => in_end HT.out hjl HMK.out HIS.out HN.out h
            have HSTP := hide fun (h : l.getD i true = false) (ha : Mv.Away (Mx.fn xs) (Mx.fn ws) i) => in_step HY.out HT.out HST.out HN.out h ha
            have HOD := hide fun (z : Nat) => g_own HOI.out (below_drewN (Below.refl wr.heap.size wr) z)
            have HBD := hide fun (z : Nat) => below_drewN HBI.out z
            cases hb : l.getD i true
            · rw [hb] at c0
              by_cases hg : 0 < xs.getD i 0
              · cases hx0 : (ws.getD i 0 != xs.getD i 0)
                · obtain ⟨e1, e2, e3⟩ := HEN.out (Or.inr fun h => by have := (HAW.out.2 h).2; rw [← bne_iff_ne, hx0] at this; cases this)
                  have HE2 := hide e2
                  have HE3 := hide e3
                  generalize ws.getD i 0 = g at *
                  generalize xs.getD i 0 = x at *
                  clear hb e2 e3 HEN HSTP HAW
                  go_wp2_with fail
                  go_quiet (fail)
                  go_wp2_with fail
                  go_roundw
                  case rel => exact ⟨j + 1, q, l, rfl, by go_num, by omega, e1, HE2, HE3, hide (HOD.out _), hide (HBD.out _)⟩
                  case measure => simp only [intOf]; omega
                · obtain ⟨p, e1, hg0, hqr, hin⟩ := HSTP.out hb (HAW.out.1 ⟨hg, bne_iff_ne.1 hx0⟩)
                  subst hqr
                  have HI2 := hide hin
                  have HSP := hide fun (W : World) (h : ARow W (some ⟨b1, o1, none⟩) ws) => (e1 ▸ sp_any (w := W) (c := d) (x := xs.getD i 0) HY.out (by omega) h : Calls Try.prog 77 #[.slice (some ⟨b1, o1, none⟩) k d, .int .i64 (xs.getD i 0)] W fun e w' => e = .returned (.int .i64 (p : Int)) ∧ w' = W)
                  have HAT := hide fun (W : World) (h : Below w.heap.size w W) => show W.cell? ⟨b2, o2 + i, none⟩ = some (.int .i64 (xs.getD i 0)) by
                    obtain ⟨_, _, e, q⟩ := (HA.out.below h).at (i := i) (by rw [HX.out]; exact hil)
                    cases e; exact q
                  generalize ws.getD i 0 = g at *
                  generalize xs.getD i 0 = x at *
                  clear hb e1 hin HEN HSTP HAW
                  go_wp2_with fail
                  go_quiet (fail)
                  have hown := HOD.out nq
                  have hbd := HBD.out nq
                  clear HOD HBD c0 q1 q2 HOI HBI
                  generalize wr.drewN nq = W at *
                  have f0 := hown.frozenAt i
                  have c0 : W.cell? ⟨w.heap.size, i, none⟩ = some (.bool (l.getD i true)) := by
                    rw [hown.cellAt i (by rw [Nat.mul_one]; exact hil), bls_get _ i (by rw [hll]; exact hil) true]
                  obtain ⟨st1, st2⟩ := hown.stored i (.bool true)
                  rw [bls_set] at st1
                  have HB5 := hide (hbd.trans (grown_below' st2 (Nat.le_refl _) hbd.size))
                  have q3 := HAT.out _ HB5.out
                  have HSQ := hide (HSP.out _ (HB.out.below HB5.out))
                  have HO5 := hide st1
                  clear st1 st2 hown hbd HSP HAT
                  go_wp2_with fail
                  refine HSQ.out.mono ?_
                  rintro z w4 ⟨rfl, hw4⟩
                  subst hw4
                  by_cases hpk : p = j
                  · have HI3 := hide (HI2.out (q + 1) (fun _ => rfl) (fun h => absurd hpk h))
                    subst hpk
                    go_wp2_with fail
                    go_roundg (gk - 1)
                    case measure => omega
                    case rel => exact ⟨p, t + 1, q + 1, _, by go_num, rfl, by omega, HI3, HO5, HB5⟩
                  · have HI3 := hide (HI2.out q (fun h => absurd h hpk) (fun _ => rfl))
                    have hpj : ¬ (p : Int) = (j : Int) := by omega
                    go_wp2_with fail
                    go_roundg (gk - 1)
                    case measure => omega
                    case rel => exact ⟨p, t + 1, q, _, rfl, rfl, by omega, HI3, HO5, HB5⟩
              · have hd0 : decide (0 < xs.getD i 0) = false := decide_eq_false hg
                obtain ⟨e1, e2, e3⟩ := HEN.out (Or.inr fun h => hg (HAW.out.2 h).1)
                have HE2 := hide e2
                have HE3 := hide e3
                generalize ws.getD i 0 = g at *
                generalize xs.getD i 0 = x at *
                clear hb e2 e3 HEN HSTP HAW
                go_wp2_with fail
                go_quiet (fail)
                go_wp2_with fail
                go_roundw
                case rel => exact ⟨j + 1, q, l, rfl, by go_num, by omega, e1, HE2, HE3, hide (HOD.out _), hide (HBD.out _)⟩
                case measure => simp only [intOf]; omega
            · rw [hb] at c0
              obtain ⟨e1, e2, e3⟩ := HEN.out (Or.inl hb)
              have HE2 := hide e2
              have HE3 := hide e3
              generalize ws.getD i 0 = g at *
              generalize xs.getD i 0 = x at *
              clear hb e2 e3 HEN HSTP HAW
              go_wp2_with fail
              go_quiet (fail)
              go_wp2_with fail
              go_roundw
              case rel => exact ⟨j + 1, q, l, rfl, by go_num, by omega, e1, HE2, HE3, hide (HOD.out _), hide (HBD.out _)⟩
              case measure => simp only [intOf]; omega
        · have hje : j = k := by omega
          subst hje
          have HFI : Hid (AR j j xs ws e r) := hide ⟨HI.out, HIS.out⟩
          go_wp2_with fail
          go_ret2
          exact ⟨e, r, rfl, HFI.out, HBW.out⟩
end Go.Proofs.Ytnjkdfeajlnojaa
namespace Go.Proofs.Ytnjkdfeajlnojaa
open Go.RowKit

/-- What is answered: how many are elsewhere and how many rings there are, or nothing. -/
def Ans (xs ws : List Int) (A R : Int) : Prop := (Mx.sameB xs ws = true ∧ ∃ a r : Nat, A = a ∧ R = r ∧ AR xs.length xs.length xs ws a r) ∨ (Mx.sameB xs ws = false ∧ A = 0 ∧ R = 0)
theorem ans_some (xs ws : List Int) : ∃ A R, Ans xs ws A R := by
  cases h : Mx.sameB xs ws
  · exact ⟨0, 0, Or.inr ⟨h, rfl, rfl⟩⟩
  · obtain ⟨a, ha⟩ := Mv.Is.some xs.length (Mv.Away (Mx.fn xs) (Mx.fn ws))
    obtain ⟨r, hr⟩ := Mv.Is.some xs.length (Mv.Lead (Mv.nxt xs.length (Mx.fn xs) (Mx.fn ws)))
    exact ⟨a, r, Or.inl ⟨h, a, r, rfl, rfl, ha, hr⟩⟩
theorem ans_bd {xs ws : List Int} {A R : Int} (h : Ans xs ws A R) : 0 ≤ A ∧ A ≤ 9 ∧ 0 ≤ R ∧ R ≤ 9 := by
  rcases h with ⟨hs, a, r, rfl, rfl, h1, h2⟩ | ⟨_, rfl, rfl⟩
  · have hn := (Mx.good_len (Mx.same_good hs).1).2
    have := h1.le
    have := h2.le
    omega
  · omega
theorem ar_one {k n : Nat} {xs ws : List Int} {a r a' r' : Nat} (h : AR k n xs ws a r) (h' : AR k n xs ws a' r') : a = a' ∧ r = r' := ⟨h.1.one h'.1, h.2.one h'.2⟩
theorem ro_w {a b : Option Addr} {n m c d : Nat} {xs ws : List Int} {A R : Int} {w : World} (hx : xs.length = n) (hy : ws.length = m) (hc : n ≤ c) (hd : m ≤ d) (hans : Ans xs ws A R) (ha : ARow w a xs) (hb : ARow w b ws) :
    Calls Try.prog 78 #[.slice a n c, .slice b m d] w fun e w' => e = .returned (.tuple #[.int .i64 A, .int .i64 R, .bool (Mx.sameB xs ws)]) ∧ Below w.heap.size w w' := by
  rcases hans with ⟨hs, A0, R0, rfl, rfl, hAR⟩ | ⟨hs, rfl, rfl⟩
  · obtain ⟨e2, h2⟩ := Mx.same_two hs hx
    obtain rfl : n = m := by omega
    have hn := (Mx.good_len (Mx.same_good hs).1).2
    rw [hs]
    refine (ro_yes (hide hx) (hide hy) (by omega) hc hd (hide ha) (hide hb) (hide hs) (hide h2)).mono ?_
    rintro e w' ⟨A1, R1, rfl, h1, hw⟩
    rw [hx] at hAR
    obtain ⟨rfl, rfl⟩ := ar_one hAR h1
    exact ⟨rfl, hw⟩
  · rw [hs]
    exact ro_no (hide hx) (hide hy) hc hd (hide ha) (hide hb) (hide hs)
set_option maxHeartbeats 400000 in
theorem mn_w {a b : Option Addr} {n m c d : Nat} {xs ws : List Int} {A R : Int} {w : World} (hx : xs.length = n) (hy : ws.length = m) (hc : n ≤ c) (hd : m ≤ d) (hans : Ans xs ws A R) (ha : ARow w a xs) (hb : ARow w b ws) :
    Calls Try.prog 57 #[.slice a n c, .slice b m d] w fun e w' => e = .returned (.tuple #[.int .i64 (A + R), .bool (Mx.sameB xs ws)]) ∧ Below w.heap.size w w' := by
  have HR := hide (ro_w (c := c) (d := d) hx hy hc hd hans ha hb)
  obtain ⟨g0, g1, g2, g3⟩ := ans_bd hans
  generalize Mx.sameB xs ws = G at *
  clear hans ha hb
  go_enter Try.func57, Try.ntmps57
  go_wp2_with fail
  refine HR.out.mono ?_
  rintro e w1 ⟨rfl, hw⟩
  have HW := hide hw
  clear hw
  go_wp2_with fail
  go_ret2
  exact ⟨by go_num, HW.out⟩
end Go.Proofs.Ytnjkdfeajlnojaa
namespace Go.Proofs.Ytnjkdfeajlnojaa
open Go.RowKit

/-- A move's box, as it lies. -/
def MW (w : World) (B : Nat) (v0 v1 : Value) : Prop := w.heap[B]? = some (.cells #[v0, v1] 41 (0, 0))
theorem MW.new (w : World) (v0 v1 : Value) : MW (w.alloc (.cells #[v0, v1] 41)) w.heap.size v0 v1 := World.alloc_heap_new w _
theorem MW.lt {w : World} {B : Nat} {v0 v1 : Value} (h : MW w B v0 v1) : B < w.heap.size := (Array.getElem?_eq_some_iff.1 h).1
theorem MW.below {w w' : World} {B : Nat} {v0 v1 : Value} (h : MW w B v0 v1) (hb : Below w.heap.size w w') : MW w' B v0 v1 := (hb.block B h.lt).trans h
theorem MW.cells {w : World} {B : Nat} {v0 v1 : Value} (h : MW w B v0 v1) : w.cell? ⟨B, 0, none⟩ = some v0 ∧ w.cell? ⟨B, 1, none⟩ = some v1 := by simp [World.cell?, show w.heap[B]? = _ from h]
theorem MW.fz {w : World} {B : Nat} {v0 v1 : Value} (h : MW w B v0 v1) (i : Nat) : w.frozen? ⟨B, i, none⟩ = false := by simp [World.frozen?, show w.heap[B]? = _ from h]
theorem MW.set0 {w : World} {B : Nat} {v0 v1 : Value} (h : MW w B v0 v1) (u : Value) : MW (w.setCell ⟨B, 0, none⟩ u) B u v1 := by
  obtain ⟨hlt, hk⟩ := Array.getElem?_eq_some_iff.1 h
  show (w.heap.modify B _)[B]? = _
  rw [Array.getElem?_eq_getElem (by rw [Array.size_modify]; exact hlt), Array.getElem_modify_self, hk]
  rfl
theorem MW.set1 {w : World} {B : Nat} {v0 v1 : Value} (h : MW w B v0 v1) (u : Value) : MW (w.setCell ⟨B, 1, none⟩ u) B v0 u := by
  obtain ⟨hlt, hk⟩ := Array.getElem?_eq_some_iff.1 h
  show (w.heap.modify B _)[B]? = _
  rw [Array.getElem?_eq_getElem (by rw [Array.size_modify]; exact hlt), Array.getElem_modify_self, hk]
  rfl
def goodJ (x : Jb.J) : Bool := Jb.goodB x.xs x.ws x.L x.M x.f
theorem good_same16 {x : Jb.J} (h : goodJ x = true) : Mx.sameB x.xs x.ws = true ∧ (1 ≤ x.xs.length ∧ x.xs.length ≤ 9) ∧ x.M.length ≤ 60 := by
  have hf := Jb.good_fit (xs := x.xs) (ws := x.ws) (L := x.L) (M := x.M) (f := x.f) h
  have := hf.two
  exact ⟨hf.same, ⟨by have := this.1; simp only at this; omega, this.2.1⟩, hf.m60⟩
/-- The next move. -/
def nmB (x : Jb.J) : Bool := goodJ x && !x.L.isEmpty
def nmV (x : Jb.J) : Int × Int := if nmB x then x.L.getD 0 (0, 0) else (0, 0)
theorem nm_no1 {x : Jb.J} (h : goodJ x = false) : nmB x = false ∧ nmV x = (0, 0) := by
  have : nmB x = false := by unfold nmB; rw [h]; rfl
  exact ⟨this, by unfold nmV; rw [this]; rfl⟩
theorem nm_no2 {x : Jb.J} (h : x.L.length = 0) : nmB x = false ∧ nmV x = (0, 0) := by
  have : nmB x = false := by unfold nmB; rw [List.length_eq_zero_iff.1 h]; simp
  exact ⟨this, by unfold nmV; rw [this]; rfl⟩
theorem nm_yes {x : Jb.J} (h : goodJ x = true) (h2 : x.L.length ≠ 0) : nmB x = true ∧ nmV x = x.L.getD 0 (0, 0) := by
  have : nmB x = true := by
    unfold nmB; rw [h]
    cases e : x.L with
    | nil => rw [e] at h2; simp at h2
    | cons _ _ => rfl
  exact ⟨this, by unfold nmV; rw [this]; rfl⟩
/-- The start. -/
def soB (x : Jb.J) : Bool := goodJ x
def soL (x : Jb.J) : List Int := if goodJ x then Jb.stL x.xs x.M else []
theorem so_no {x : Jb.J} (h : goodJ x = false) : soB x = false ∧ soL x = [] := ⟨h, by unfold soL; rw [h]; rfl⟩
theorem so_yes {x : Jb.J} (h : goodJ x = true) : soB x = Jb.stB x.xs x.M ∧ soL x = Jb.stL x.xs x.M := by
  refine ⟨?_, by unfold soL; rw [h]; rfl⟩
  unfold soB
  rw [h]
  simp only [goodJ, Jb.goodB, Bool.and_eq_true] at h
  exact h.2.2.2.1.symm
theorem soL_le (x : Jb.J) : (soL x).length ≤ 9 := by
  unfold soL
  split
  · rename_i h; exact Jb.stL_len _ (good_same16 h).2.1.2
  · simp
theorem gj_in {v : Value} {x : Jb.J} {w : World} {g : Bool} (h : JIn w v x) (hg : goodJ x = g) :
    Calls Try.prog 20 #[v] w fun e w' => e = .returned (.bool g) ∧ Below w.heap.size w w' := by
  obtain ⟨a, b, p, r, c, d, e, t, rfl, hc, hd, ra, rb, rp, rr⟩ := h.ex
  subst hg
  exact gj_any (hide rfl) (hide rfl) hc hd (hide ra) (hide rb) (hide rfl) (hide rp) (hide rfl) (hide rr)
theorem sgj_in {v : Value} {x : Jb.J} {w : World} {g : Bool} (h : JIn w v x) (hg : goodJ x = g) :
    Calls Try.prog 18 #[v] w fun e w' => e = .returned (.bool g) ∧ Below w.heap.size w w' := by
  obtain ⟨a, b, p, r, c, d, e, t, rfl, hc, hd, ra, rb, rp, rr⟩ := h.ex
  subst hg
  exact sgj_any (hide rfl) (hide rfl) hc hd (hide ra) (hide rb) (hide rfl) (hide rp) (hide rfl) (hide rr)
set_option maxHeartbeats 2000000 in
theorem nm_in {v : Value} {x : Jb.J} {w : World} (h : JIn w v x) :
    Calls Try.prog 22 #[v] w fun e w' => e = .returned (.tuple #[.agg #[.int .i64 (nmV x).1, .int .i64 (nmV x).2], .bool (nmB x)]) ∧ Below w.heap.size w w' := by
  obtain ⟨a, b, p, r, c, d, e, t, rfl, hc, hd, ra, rb, rp, rr⟩ := h.ex
  have hb0 : Below w.heap.size w ((w.alloc (.cells #[.slice a x.xs.length c, .slice b x.ws.length d, .slice p x.L.length e, .slice r x.M.length t, .int .i64 x.f] 25)).alloc (.cells #[.int .i64 0, .int .i64 0] 41)) := ((Below.refl _ w).alloc (Nat.le_refl _) _).alloc (by simp) _
  have hm0 := MW.new (w.alloc (.cells #[.slice a x.xs.length c, .slice b x.ws.length d, .slice p x.L.length e, .slice r x.M.length t, .int .i64 x.f] 25)) (.int .i64 0) (.int .i64 0)
  rw [World.size_alloc] at hm0
  have hj0 := (JW.new w 25 (.slice a x.xs.length c) (.slice b x.ws.length d) (.slice p x.L.length e) (.slice r x.M.length t) (.int .i64 x.f)).alloc (.cells #[.int .i64 0, .int .i64 0] 41)
  have h' := h.below hb0
  have rp' := rp.below hb0
  obtain ⟨c0, c1, c2, c3, c4⟩ := hj0.cells
  have HB0 := hide hb0
  have HJ0 := hide hj0
  have HM0 := hide hm0
  cases hg : goodJ x
  · obtain ⟨e1, e2⟩ := nm_no1 hg
    rw [e1, e2]
    have HG := hide (gj_in h' hg)
    clear h h' hg e1 e2 ra rb rp rr rp' hb0 hj0 hm0
    go_enter Try.func22, Try.ntmps22
    go_wp2_with fail
    refine HG.out.mono ?_
    rintro _ w1 ⟨rfl, hb1⟩
    have HB1 := hide (HB0.out.trans (hb1.mono HB0.out.size))
    obtain ⟨d0, d1, d2, d3, d4⟩ := (HJ0.out.below hb1).cells
    have HM1 := hide (HM0.out.below hb1)
    obtain ⟨m0, m1⟩ := HM1.out.cells
    have mf := HM1.out.fz
    clear HG hb1
    go_wp2_with fail
    have HS := hide ((HM1.out.set0 (.int .i64 0)).set1 (.int .i64 0))
    obtain ⟨q0, q1⟩ := HS.out.cells
    exact bodyPost_ret (v := .tuple #[.agg #[.int .i64 0, .int .i64 0], .bool false]) (by simp [results, Try.results22, go_sem, q0, q1]) rfl ⟨rfl, (HB1.out.setCell (p := ⟨w.heap.size + 1, 0, none⟩) (show w.heap.size ≤ w.heap.size + 1 by omega) _).setCell (p := ⟨w.heap.size + 1, 1, none⟩) (show w.heap.size ≤ w.heap.size + 1 by omega) _⟩
  · have HG := hide (gj_in h' hg)
    by_cases h0 : x.L.length = 0
    · obtain ⟨e1, e2⟩ := nm_no2 h0
      rw [e1, e2]
      have z0 : ((x.L.length : Int) == 0) = true := by rw [beq_iff_eq]; omega
      clear h h' hg e1 e2 ra rb rp rr rp' hb0 hj0 hm0 h0
      go_enter Try.func22, Try.ntmps22
      go_wp2_with fail
      refine HG.out.mono ?_
      rintro _ w1 ⟨rfl, hb1⟩
      have HB1 := hide (HB0.out.trans (hb1.mono HB0.out.size))
      obtain ⟨d0, d1, d2, d3, d4⟩ := (HJ0.out.below hb1).cells
      have HM1 := hide (HM0.out.below hb1)
      obtain ⟨m0, m1⟩ := HM1.out.cells
      have mf := HM1.out.fz
      clear HG hb1
      go_wp2_with fail
      have HS := hide ((HM1.out.set0 (.int .i64 0)).set1 (.int .i64 0))
      obtain ⟨q0, q1⟩ := HS.out.cells
      exact bodyPost_ret (v := .tuple #[.agg #[.int .i64 0, .int .i64 0], .bool false]) (by simp [results, Try.results22, go_sem, q0, q1]) rfl ⟨rfl, (HB1.out.setCell (p := ⟨w.heap.size + 1, 0, none⟩) (show w.heap.size ≤ w.heap.size + 1 by omega) _).setCell (p := ⟨w.heap.size + 1, 1, none⟩) (show w.heap.size ≤ w.heap.size + 1 by omega) _⟩
    · obtain ⟨e1, e2⟩ := nm_yes hg h0
      rw [e1, e2]
      have z0 : ((x.L.length : Int) == 0) = false := by simp only [beq_eq_false_iff_ne, ne_eq]; omega
      have z1 : (0 : Int) < (x.L.length : Int) := by omega
      obtain ⟨b1, o1, rfl, hbl, r0, r1⟩ := rp'.at (i := 0) (by omega)
      generalize (x.L.getD 0 (0, 0)) = M at *
      obtain ⟨F, T⟩ := M
      simp only [Nat.zero_mul, Nat.add_zero] at r0 r1 ⊢
      clear h h' hg e1 e2 ra rb rp rr rp' hb0 hj0 hm0 h0
      go_enter Try.func22, Try.ntmps22
      go_wp2_with fail
      refine HG.out.mono ?_
      rintro _ w1 ⟨rfl, hb1⟩
      have HB1 := hide (HB0.out.trans (hb1.mono HB0.out.size))
      obtain ⟨d0, d1, d2, d3, d4⟩ := (HJ0.out.below hb1).cells
      have HM1 := hide (HM0.out.below hb1)
      obtain ⟨m0, m1⟩ := HM1.out.cells
      have mf := HM1.out.fz
      have r0' := (hb1.cell (p := ⟨b1, o1, none⟩) hbl).trans r0
      have r1' := (hb1.cell (p := ⟨b1, o1 + 1, none⟩) hbl).trans r1
      clear HG hb1 r0 r1 c0 c1 c2 c3 c4
      go_wp2_with fail
      have HS := hide ((HM1.out.set0 (.int .i64 F)).set1 (.int .i64 T))
      obtain ⟨q0, q1⟩ := HS.out.cells
      exact bodyPost_ret (v := .tuple #[.agg #[.int .i64 F, .int .i64 T], .bool true]) (by simp [results, Try.results22, go_sem, q0, q1]) rfl ⟨rfl, (HB1.out.setCell (p := ⟨w.heap.size + 1, 0, none⟩) (show w.heap.size ≤ w.heap.size + 1 by omega) _).setCell (p := ⟨w.heap.size + 1, 1, none⟩) (show w.heap.size ≤ w.heap.size + 1 by omega) _⟩
set_option maxHeartbeats 2000000 in
theorem snm_in {v : Value} {x : Jb.J} {w : World} (h : JIn w v x) :
    Calls Try.prog 21 #[v] w fun e w' => e = .returned (.tuple #[.agg #[.int .i64 (nmV x).1, .int .i64 (nmV x).2], .bool (nmB x)]) ∧ Below w.heap.size w w' := by
  obtain ⟨a, b, p, r, c, d, e, t, rfl, hc, hd, ra, rb, rp, rr⟩ := h.ex
  have hb0 : Below w.heap.size w ((w.alloc (.cells #[.slice a x.xs.length c, .slice b x.ws.length d, .slice p x.L.length e, .slice r x.M.length t, .int .i64 x.f] 25)).alloc (.cells #[.int .i64 0, .int .i64 0] 41)) := ((Below.refl _ w).alloc (Nat.le_refl _) _).alloc (by simp) _
  have hm0 := MW.new (w.alloc (.cells #[.slice a x.xs.length c, .slice b x.ws.length d, .slice p x.L.length e, .slice r x.M.length t, .int .i64 x.f] 25)) (.int .i64 0) (.int .i64 0)
  rw [World.size_alloc] at hm0
  have hj0 := (JW.new w 25 (.slice a x.xs.length c) (.slice b x.ws.length d) (.slice p x.L.length e) (.slice r x.M.length t) (.int .i64 x.f)).alloc (.cells #[.int .i64 0, .int .i64 0] 41)
  have h' := h.below hb0
  have rp' := rp.below hb0
  obtain ⟨c0, c1, c2, c3, c4⟩ := hj0.cells
  have HB0 := hide hb0
  have HJ0 := hide hj0
  have HM0 := hide hm0
  cases hg : goodJ x
  · obtain ⟨e1, e2⟩ := nm_no1 hg
    rw [e1, e2]
    have HG := hide (sgj_in h' hg)
    clear h h' hg e1 e2 ra rb rp rr rp' hb0 hj0 hm0
    go_enter Try.func21, Try.ntmps21
    go_wp2_with fail
    refine HG.out.mono ?_
    rintro _ w1 ⟨rfl, hb1⟩
    have HB1 := hide (HB0.out.trans (hb1.mono HB0.out.size))
    obtain ⟨d0, d1, d2, d3, d4⟩ := (HJ0.out.below hb1).cells
    have HM1 := hide (HM0.out.below hb1)
    obtain ⟨m0, m1⟩ := HM1.out.cells
    have mf := HM1.out.fz
    clear HG hb1
    go_wp2_with fail
    have HS := hide ((HM1.out.set0 (.int .i64 0)).set1 (.int .i64 0))
    obtain ⟨q0, q1⟩ := HS.out.cells
    exact bodyPost_ret (v := .tuple #[.agg #[.int .i64 0, .int .i64 0], .bool false]) (by simp [results, Try.results21, go_sem, q0, q1]) rfl ⟨rfl, (HB1.out.setCell (p := ⟨w.heap.size + 1, 0, none⟩) (show w.heap.size ≤ w.heap.size + 1 by omega) _).setCell (p := ⟨w.heap.size + 1, 1, none⟩) (show w.heap.size ≤ w.heap.size + 1 by omega) _⟩
  · have HG := hide (sgj_in h' hg)
    by_cases h0 : x.L.length = 0
    · obtain ⟨e1, e2⟩ := nm_no2 h0
      rw [e1, e2]
      have z0 : ((x.L.length : Int) == 0) = true := by rw [beq_iff_eq]; omega
      clear h h' hg e1 e2 ra rb rp rr rp' hb0 hj0 hm0 h0
      go_enter Try.func21, Try.ntmps21
      go_wp2_with fail
      refine HG.out.mono ?_
      rintro _ w1 ⟨rfl, hb1⟩
      have HB1 := hide (HB0.out.trans (hb1.mono HB0.out.size))
      obtain ⟨d0, d1, d2, d3, d4⟩ := (HJ0.out.below hb1).cells
      have HM1 := hide (HM0.out.below hb1)
      obtain ⟨m0, m1⟩ := HM1.out.cells
      have mf := HM1.out.fz
      clear HG hb1
      go_wp2_with fail
      have HS := hide ((HM1.out.set0 (.int .i64 0)).set1 (.int .i64 0))
      obtain ⟨q0, q1⟩ := HS.out.cells
      exact bodyPost_ret (v := .tuple #[.agg #[.int .i64 0, .int .i64 0], .bool false]) (by simp [results, Try.results21, go_sem, q0, q1]) rfl ⟨rfl, (HB1.out.setCell (p := ⟨w.heap.size + 1, 0, none⟩) (show w.heap.size ≤ w.heap.size + 1 by omega) _).setCell (p := ⟨w.heap.size + 1, 1, none⟩) (show w.heap.size ≤ w.heap.size + 1 by omega) _⟩
    · obtain ⟨e1, e2⟩ := nm_yes hg h0
      rw [e1, e2]
      have z0 : ((x.L.length : Int) == 0) = false := by simp only [beq_eq_false_iff_ne, ne_eq]; omega
      have z1 : (0 : Int) < (x.L.length : Int) := by omega
      obtain ⟨b1, o1, rfl, hbl, r0, r1⟩ := rp'.at (i := 0) (by omega)
      generalize (x.L.getD 0 (0, 0)) = M at *
      obtain ⟨F, T⟩ := M
      simp only [Nat.zero_mul, Nat.add_zero] at r0 r1 ⊢
      clear h h' hg e1 e2 ra rb rp rr rp' hb0 hj0 hm0 h0
      go_enter Try.func21, Try.ntmps21
      go_wp2_with fail
      refine HG.out.mono ?_
      rintro _ w1 ⟨rfl, hb1⟩
      have HB1 := hide (HB0.out.trans (hb1.mono HB0.out.size))
      obtain ⟨d0, d1, d2, d3, d4⟩ := (HJ0.out.below hb1).cells
      have HM1 := hide (HM0.out.below hb1)
      obtain ⟨m0, m1⟩ := HM1.out.cells
      have mf := HM1.out.fz
      have r0' := (hb1.cell (p := ⟨b1, o1, none⟩) hbl).trans r0
      have r1' := (hb1.cell (p := ⟨b1, o1 + 1, none⟩) hbl).trans r1
      clear HG hb1 r0 r1 c0 c1 c2 c3 c4
      go_wp2_with fail
      have HS := hide ((HM1.out.set0 (.int .i64 F)).set1 (.int .i64 T))
      obtain ⟨q0, q1⟩ := HS.out.cells
      exact bodyPost_ret (v := .tuple #[.agg #[.int .i64 F, .int .i64 T], .bool true]) (by simp [results, Try.results21, go_sem, q0, q1]) rfl ⟨rfl, (HB1.out.setCell (p := ⟨w.heap.size + 1, 0, none⟩) (show w.heap.size ≤ w.heap.size + 1 by omega) _).setCell (p := ⟨w.heap.size + 1, 1, none⟩) (show w.heap.size ≤ w.heap.size + 1 by omega) _⟩
set_option maxHeartbeats 2000000 in
theorem dl_in {v : Value} {x : Jb.J} {w : World} {A R D : Int} (hans : Ans x.xs x.ws A R) (hD : D = if goodJ x then A + R else 0) (h : JIn w v x) :
    Calls Try.prog 32 #[v] w fun e w' => e = .returned (.tuple #[.int .i64 D, .bool (goodJ x)]) ∧ Below w.heap.size w w' := by
  obtain ⟨a, b, p, r, c, d, e, t, rfl, hc, hd, ra, rb, rp, rr⟩ := h.ex
  have hb0 := below_new w (.cells #[.slice a x.xs.length c, .slice b x.ws.length d, .slice p x.L.length e, .slice r x.M.length t, .int .i64 x.f] 25)
  have hj0 := JW.new w 25 (.slice a x.xs.length c) (.slice b x.ws.length d) (.slice p x.L.length e) (.slice r x.M.length t) (.int .i64 x.f)
  have h' := h.below hb0
  have ra' := ra.below hb0
  have rb' := rb.below hb0
  obtain ⟨c0, c1, c2, c3, c4⟩ := hj0.cells
  have HB0 := hide hb0
  have HJ0 := hide hj0
  cases hg : goodJ x
  · have HG := hide (gj_in h' hg)
    rw [hg] at hD
    simp only [Bool.false_eq_true, if_false] at hD
    subst hD
    clear h h' hg ra rb rp rr ra' rb' hb0 hj0 hans
    go_enter Try.func32, Try.ntmps32
    go_wp2_with fail
    refine HG.out.mono ?_
    rintro _ w1 ⟨rfl, hb1⟩
    have HB1 := hide (HB0.out.trans (hb1.mono HB0.out.size))
    obtain ⟨d0, d1, d2, d3, d4⟩ := (HJ0.out.below hb1).cells
    clear HG hb1
    go_wp2_with fail
    go_ret2
    exact ⟨rfl, HB1.out⟩
  · have HG := hide (gj_in h' hg)
    obtain ⟨hs, ⟨hn1, hn9⟩, hm60⟩ := good_same16 hg
    rw [hg] at hD
    simp only [if_true] at hD
    subst hD
    have HC := hide fun (W : World) (hA : ARow W a x.xs) (hB : ARow W b x.ws) => mn_w (c := c) (d := d) (rfl : x.xs.length = _) (rfl : x.ws.length = _) hc hd hans hA hB
    rw [hs] at HC
    obtain ⟨g0, g1, g2, g3⟩ := ans_bd hans
    clear h h' hg ra rb rp rr hb0 hj0 hans hs
    go_enter Try.func32, Try.ntmps32
    go_wp2_with fail
    refine HG.out.mono ?_
    rintro _ w1 ⟨rfl, hb1⟩
    have HB1 := hide (HB0.out.trans (hb1.mono HB0.out.size))
    obtain ⟨d0, d1, d2, d3, d4⟩ := (HJ0.out.below hb1).cells
    have HC1 := hide (HC.out w1 (ra'.below hb1) (rb'.below hb1))
    clear HG hb1 c0 c1 c2 c3 c4 ra' rb' HC
    go_wp2_with fail
    refine HC1.out.mono ?_
    rintro _ w2 ⟨rfl, hb2⟩
    have HB2 := hide (HB1.out.trans (hb2.mono HB1.out.size))
    clear HC1 hb2
    go_wp2_with fail
    go_ret2
    exact ⟨rfl, HB2.out⟩
set_option maxHeartbeats 2000000 in
theorem sdl_in {v : Value} {x : Jb.J} {w : World} {A R D : Int} (hans : Ans x.xs x.ws A R) (hD : D = if goodJ x then A + R else 0) (h : JIn w v x) :
    Calls Try.prog 31 #[v] w fun e w' => e = .returned (.tuple #[.int .i64 D, .bool (goodJ x)]) ∧ Below w.heap.size w w' := by
  obtain ⟨a, b, p, r, c, d, e, t, rfl, hc, hd, ra, rb, rp, rr⟩ := h.ex
  have hb0 := below_new w (.cells #[.slice a x.xs.length c, .slice b x.ws.length d, .slice p x.L.length e, .slice r x.M.length t, .int .i64 x.f] 25)
  have hj0 := JW.new w 25 (.slice a x.xs.length c) (.slice b x.ws.length d) (.slice p x.L.length e) (.slice r x.M.length t) (.int .i64 x.f)
  have h' := h.below hb0
  have ra' := ra.below hb0
  have rb' := rb.below hb0
  obtain ⟨c0, c1, c2, c3, c4⟩ := hj0.cells
  have HB0 := hide hb0
  have HJ0 := hide hj0
  cases hg : goodJ x
  · have HG := hide (sgj_in h' hg)
    rw [hg] at hD
    simp only [Bool.false_eq_true, if_false] at hD
    subst hD
    clear h h' hg ra rb rp rr ra' rb' hb0 hj0 hans
    go_enter Try.func31, Try.ntmps31
    go_wp2_with fail
    refine HG.out.mono ?_
    rintro _ w1 ⟨rfl, hb1⟩
    have HB1 := hide (HB0.out.trans (hb1.mono HB0.out.size))
    obtain ⟨d0, d1, d2, d3, d4⟩ := (HJ0.out.below hb1).cells
    clear HG hb1
    go_wp2_with fail
    go_ret2
    exact ⟨rfl, HB1.out⟩
  · have HG := hide (sgj_in h' hg)
    obtain ⟨hs, ⟨hn1, hn9⟩, hm60⟩ := good_same16 hg
    rw [hg] at hD
    simp only [if_true] at hD
    subst hD
    obtain ⟨_, A0, R0, rfl, rfl, hAR⟩ := hans.resolve_right (fun e => by rw [hs] at e; cases e.1)
    obtain ⟨e2, h2⟩ := Mx.same_two hs rfl
    have HC := hide fun (W : World) (hA : ARow W a x.xs) (hB : ARow W b x.ws) => lr_any (c := c) (d := d) hn9 (hide (rfl : x.xs.length = _)) (hide e2) (hide hA) (hide hB) (hide h2)
    obtain ⟨g0, g1, g2, g3⟩ := ans_bd hans
    have HAR := hide hAR
    generalize x.ws.length = m at *
    subst e2
    clear h h' hg ra rb rp rr hb0 hj0 hans hs h2 hAR
    go_enter Try.func31, Try.ntmps31
    go_wp2_with fail
    refine HG.out.mono ?_
    rintro _ w1 ⟨rfl, hb1⟩
    have HB1 := hide (HB0.out.trans (hb1.mono HB0.out.size))
    obtain ⟨d0, d1, d2, d3, d4⟩ := (HJ0.out.below hb1).cells
    have HC1 := hide (HC.out w1 (ra'.below hb1) (rb'.below hb1))
    clear HG hb1 c0 c1 c2 c3 c4 ra' rb' HC
    go_wp2_with fail
    refine HC1.out.mono ?_
    rintro _ w2 ⟨A1, R1, rfl, hr, hb2⟩
    obtain ⟨rfl, rfl⟩ := ar_one HAR.out hr
    have HB2 := hide (HB1.out.trans (hb2.mono HB1.out.size))
    clear HC1 hb2 hr
    go_wp2_with fail
    go_ret2
    exact ⟨by go_num, HB2.out⟩
end Go.Proofs.Ytnjkdfeajlnojaa
namespace Go.Proofs.Ytnjkdfeajlnojaa
open Go.RowKit

/-- Given up: a panic that nobody has caught yet. -/
def GaveUp (e : Ending) : Prop := ∃ u pv, e = .panicked [{ v := .iface u pv, recovered := false }]
theorem gu_yes (w : World) : Calls Try.prog 89 #[.bool true] w fun e w' => e = .returned (.tuple #[]) ∧ w' = w := by
  go_enter Try.func89, Try.ntmps89
  go_wp2_with fail
  go_end0
  exact ⟨rfl, rfl⟩
theorem gu_no (w : World) : Calls Try.prog 89 #[.bool false] w fun e w' => GaveUp e ∧ w' = w := by
  go_enter Try.func89, Try.ntmps89
  go_wp2_with fail
  exact ⟨rfl, ⟨_, _, rfl⟩, rfl⟩
theorem oo_1 (w : World) : Calls Try.prog 76 #[.int .i64 1] w fun e w' => e = .returned (.iface 105 (.agg #[])) ∧ w' = w := by
  go_enter Try.func76, Try.ntmps76
  go_wp2_with fail
  go_ret
  exact ⟨rfl, rfl⟩
theorem oo_2 (w : World) : Calls Try.prog 76 #[.int .i64 2] w fun e w' => e = .returned (.iface 106 (.agg #[])) ∧ w' = w := by
  go_enter Try.func76, Try.ntmps76
  go_wp2_with fail
  go_ret
  exact ⟨rfl, rfl⟩
theorem oo_3 (w : World) : Calls Try.prog 76 #[.int .i64 3] w fun e w' => e = .returned (.iface 107 (.agg #[])) ∧ w' = w := by
  go_enter Try.func76, Try.ntmps76
  go_wp2_with fail
  go_ret
  exact ⟨rfl, rfl⟩
theorem oo_4 (w : World) : Calls Try.prog 76 #[.int .i64 4] w fun e w' => e = .returned (.iface 108 (.agg #[])) ∧ w' = w := by
  go_enter Try.func76, Try.ntmps76
  go_wp2_with fail
  go_ret
  exact ⟨rfl, rfl⟩
theorem oo_no (o : Int) (w : World) (h : ¬ o = 1) (h2 : ¬ o = 2) (h3 : ¬ o = 3) (h4 : ¬ o = 4) : Calls Try.prog 76 #[.int .i64 o] w fun e w' => GaveUp e ∧ w' = w := by
  go_enter Try.func76, Try.ntmps76
  go_wp2_with fail
  exact ⟨rfl, ⟨_, _, rfl⟩, rfl⟩
theorem nm_1 (w : World) : Calls Try.prog 131 #[.agg #[]] w fun e w' => e = .returned (.bool true) ∧ Below w.heap.size w w' := by
  go_enter Try.func131, Try.ntmps131
  go_wp2_with fail
  go_ret
  exact ⟨rfl, below_new w _⟩
theorem nm_2 (w : World) : Calls Try.prog 132 #[.agg #[]] w fun e w' => e = .returned (.bool true) ∧ Below w.heap.size w w' := by
  go_enter Try.func132, Try.ntmps132
  go_wp2_with fail
  go_ret
  exact ⟨rfl, below_new w _⟩
theorem nm_3 (w : World) : Calls Try.prog 133 #[.agg #[]] w fun e w' => e = .returned (.bool false) ∧ Below w.heap.size w w' := by
  go_enter Try.func133, Try.ntmps133
  go_wp2_with fail
  go_ret
  exact ⟨rfl, below_new w _⟩
theorem nm_4 (w : World) : Calls Try.prog 134 #[.agg #[]] w fun e w' => e = .returned (.bool false) ∧ Below w.heap.size w w' := by
  go_enter Try.func134, Try.ntmps134
  go_wp2_with fail
  go_ret
  exact ⟨rfl, below_new w _⟩
/-- A list of moves of one's own, from lo on. -/
def LV (w : World) (lo : Nat) (v : Value) (L : List (Int × Int)) : Prop := MV w v L.length L ∧ (∀ g, moB v L.length = some g → lo ≤ g) ∧ ∃ a c, v = .slice a L.length c ∧ L.length ≤ c
/-- A job of one's own in a variable, by its parts. -/
structure JP (w : World) (lo : Nat) (E : Nat → Prop) (B : Nat) (a b l m : Value) (x : Jb.J) : Prop where
  jw : JW w B 25 a b l m (.int .i64 x.f)
  lob : lo ≤ B
  oa : w.ownsRow lo 3 1 a x.xs.length (ints x.xs)
  ob : w.ownsRow lo 3 1 b x.ws.length (ints x.ws)
  ol : LV w lo l x.L
  om : w.ownsRow lo 41 2 m x.M.length (mce x.M)
  na : a.ownBlock ≠ some B
  nb : b.ownBlock ≠ some B
  nl : moB l x.L.length ≠ some B
  nm : m.ownBlock ≠ some B
  ab : Dis a.ownBlock b.ownBlock
  al : Dis a.ownBlock (moB l x.L.length)
  am : Dis a.ownBlock m.ownBlock
  bl : Dis b.ownBlock (moB l x.L.length)
  bm : Dis b.ownBlock m.ownBlock
  lm : Dis (moB l x.L.length) m.ownBlock
  elt : ∀ k, E k → k < w.heap.size
  eB : ¬ E B
  ea : ∀ g, a.ownBlock = some g → ¬ E g
  eb : ∀ g, b.ownBlock = some g → ¬ E g
  el : ∀ g, moB l x.L.length = some g → ¬ E g
  em : ∀ g, m.ownBlock = some g → ¬ E g
def JB (w : World) (lo : Nat) (E : Nat → Prop) (B : Nat) (x : Jb.J) : Prop := ∃ a b l m, JP w lo E B a b l m x
/-- What is below lo, or in E, is as it was. -/
def Fr (lo : Nat) (E : Nat → Prop) (w w' : World) : Prop := Below lo w w' ∧ KpB E w w'
theorem Fr.refl (lo : Nat) (E : Nat → Prop) (w : World) : Fr lo E w w := ⟨Below.refl _ _, KpB.refl _ _⟩
theorem Fr.trans {lo : Nat} {E : Nat → Prop} {w w1 w2 : World} (h : Fr lo E w w1) (k : Fr lo E w1 w2) : Fr lo E w w2 := ⟨h.1.trans k.1, h.2.trans k.2⟩
theorem Fr.of {lo : Nat} {E : Nat → Prop} {w w' : World} (h : Below w.heap.size w w') (hl : lo ≤ w.heap.size) (he : ∀ k, E k → k < w.heap.size) : Fr lo E w w' := ⟨h.mono hl, KpB.below he h⟩
theorem Fr.drew (lo : Nat) (E : Nat → Prop) (w : World) : Fr lo E w w.drew := ⟨(Below.refl _ _).drew, fun _ _ => rfl⟩
theorem Fr.grown {lo : Nat} {E : Nat → Prop} {w w' : World} {q : Option Nat} (h : w.grownBy w' q) (hl : lo ≤ w.heap.size) (he : ∀ k, E k → k < w.heap.size) (hq : ∀ g, q = some g → lo ≤ g ∧ ¬ E g) : Fr lo E w w' :=
  ⟨grown_under10 h (fun g e => (hq g e).1) hl, KpB.grown (fun k hk => ⟨he k hk, fun e => (hq k e).2 hk⟩) h⟩
theorem own_b16 {w w' : World} {base e s n : Nat} {v : Value} {xs : List Value} (h : w.ownsRow base e s v n xs) (hb : Below w.heap.size w w') : w'.ownsRow base e s v n xs := own_keep2 h fun g _ hl => hb.block g hl
theorem LV.below {w w' : World} {lo : Nat} {v : Value} {L : List (Int × Int)} (h : LV w lo v L) (hb : Below w.heap.size w w') : LV w' lo v L := ⟨h.1.below hb, h.2⟩
theorem LV.nil {w : World} {lo : Nat} : LV w lo (.slice none 0 0) [] := ⟨⟨rfl, Or.inl ⟨rfl, _, _, rfl⟩⟩, fun g e => by simp [moB] at e, _, _, rfl, Nat.le_refl _⟩
theorem JP.below {w w' : World} {lo : Nat} {E : Nat → Prop} {B : Nat} {a b l m : Value} {x : Jb.J} (h : JP w lo E B a b l m x) (hb : Below w.heap.size w w') : JP w' lo E B a b l m x :=
  { h with elt := fun k hk => Nat.lt_of_lt_of_le (h.elt k hk) hb.size, jw := h.jw.below hb, oa := own_b16 h.oa hb, ob := own_b16 h.ob hb, ol := h.ol.below hb, om := own_b16 h.om hb }
theorem JB.below {w w' : World} {lo : Nat} {E : Nat → Prop} {B : Nat} {x : Jb.J} (h : JB w lo E B x) (hb : Below w.heap.size w w') : JB w' lo E B x := by
  obtain ⟨a, b, l, m, h⟩ := h
  exact ⟨a, b, l, m, h.below hb⟩
theorem JB.lt {w : World} {lo : Nat} {E : Nat → Prop} {B : Nat} {x : Jb.J} (h : JB w lo E B x) : lo ≤ B ∧ B < w.heap.size := by
  obtain ⟨a, b, l, m, h⟩ := h
  exact ⟨h.lob, h.jw.lt⟩
/-- What lies elsewhere than in B stays when B is written. -/
theorem own_set16 {w : World} {base e s n B k : Nat} {v u : Value} {xs : List Value} (h : w.ownsRow base e s v n xs) (hn : v.ownBlock ≠ some B) : (w.setCell ⟨B, k, none⟩ u).ownsRow base e s v n xs :=
  own_keep2 h fun g hg _ => Below.heap_setCell _ _ _ g (fun e => hn (by rw [hg]; exact congrArg some e))
theorem lv_set16 {w : World} {lo B k : Nat} {v u : Value} {L : List (Int × Int)} (h : LV w lo v L) (hn : moB v L.length ≠ some B) : LV (w.setCell ⟨B, k, none⟩ u) lo v L :=
  ⟨h.1.keep (by simp) fun g hg => Below.heap_setCell _ _ _ g (fun e => hn (by rw [hg]; exact congrArg some e)), h.2⟩
theorem below_set16 {w : World} {lo B k : Nat} {E : Nat → Prop} {u : Value} (h : lo ≤ B) (he : ¬ E B) : Fr lo E w (w.setCell ⟨B, k, none⟩ u) := ⟨(Below.refl _ _).setCell (p := ⟨B, k, none⟩) h _, fun j hj => Below.heap_setCell _ _ _ j (fun e => by cases (show j = B from e); exact he hj)⟩
/-- Another list of moves to come. -/
theorem JP.left {w : World} {lo : Nat} {E : Nat → Prop} {B : Nat} {a b l m l' : Value} {x : Jb.J} {L' : List (Int × Int)} (h : JP w lo E B a b l m x) (hl : LV w lo l' L') (n : moB l' L'.length ≠ some B) (d1 : Dis a.ownBlock (moB l' L'.length)) (d2 : Dis b.ownBlock (moB l' L'.length)) (d3 : Dis (moB l' L'.length) m.ownBlock) (de : ∀ g, moB l' L'.length = some g → ¬ E g) :
    JP (w.setCell ⟨B, 2, none⟩ l') lo E B a b l' m { x with L := L' } :=
  { jw := h.jw.set2 l', lob := h.lob, oa := own_set16 h.oa h.na, ob := own_set16 h.ob h.nb, ol := lv_set16 hl n, om := own_set16 h.om h.nm, na := h.na, nb := h.nb, nl := n, nm := h.nm, ab := h.ab, al := d1, am := h.am, bl := d2, bm := h.bm, lm := d3, elt := fun k hk => by simpa using h.elt k hk, eB := h.eB, ea := h.ea, eb := h.eb, el := de, em := h.em }
theorem JP.empty {w : World} {lo : Nat} {E : Nat → Prop} {B : Nat} {a b l m : Value} {x : Jb.J} (h : JP w lo E B a b l m x) : JP (w.setCell ⟨B, 2, none⟩ (.slice none 0 0)) lo E B a b (.slice none 0 0) m { x with L := [] } :=
  h.left LV.nil (by simp [moB]) (fun g _ e => by simp [moB] at e) (fun g _ e => by simp [moB] at e) (fun g e => by simp [moB] at e) (fun g e => by simp [moB] at e)
theorem JP.fails {w : World} {lo : Nat} {E : Nat → Prop} {B : Nat} {a b l m : Value} {x : Jb.J} (h : JP w lo E B a b l m x) (f : Int) : JP (w.setCell ⟨B, 4, none⟩ (.int .i64 f)) lo E B a b l m { x with f := f } :=
  { jw := h.jw.set4 _, lob := h.lob, oa := own_set16 h.oa h.na, ob := own_set16 h.ob h.nb, ol := lv_set16 h.ol h.nl, om := own_set16 h.om h.nm, na := h.na, nb := h.nb, nl := h.nl, nm := h.nm, ab := h.ab, al := h.al, am := h.am, bl := h.bl, bm := h.bm, lm := h.lm, elt := fun k hk => by simpa using h.elt k hk, eB := h.eB, ea := h.ea, eb := h.eb, el := h.el, em := h.em }
/-- What stands has been written. -/
theorem JP.moved {w w' : World} {lo : Nat} {E : Nat → Prop} {B g n c : Nat} {b l m : Value} {x : Jb.J} {ys : List Int} (h : JP w lo E B (.slice (some ⟨g, 0, none⟩) n c) b l m x) (hg : w.grownBy w' (some g)) (hy : ys.length = x.xs.length) (ho : w'.ownsRow lo 3 1 (.slice (some ⟨g, 0, none⟩) n c) x.xs.length (ints ys)) :
    JP w' lo E B (.slice (some ⟨g, 0, none⟩) n c) b l m { x with xs := ys } := by
  have hk : ∀ k, k < w.heap.size → some k ≠ some g → w'.heap[k]? = w.heap[k]? := hg.block
  have e1 : (Value.slice (some ⟨g, 0, none⟩) n c).ownBlock = some g := rfl
  refine { jw := h.jw.keep (hk B h.jw.lt fun e => h.na (e1.trans e.symm)), lob := h.lob, oa := by rw [hy]; exact ho, ob := own_keep2 h.ob fun k e hl => hk k hl fun e' => h.ab g e1 (e.trans e'), ol := ⟨h.ol.1.keep hg.size fun k e => ?_, h.ol.2⟩, om := own_keep2 h.om fun k e hl => hk k hl fun e' => h.am g e1 (e.trans e'), na := h.na, nb := h.nb, nl := h.nl, nm := h.nm, ab := h.ab, al := h.al, am := h.am, bl := h.bl, bm := h.bm, lm := h.lm, elt := fun k hk => Nat.lt_of_lt_of_le (h.elt k hk) hg.size, eB := h.eB, ea := h.ea, eb := h.eb, el := h.el, em := h.em }
  refine hk k ?_ fun e' => h.al g e1 (e.trans e')
  by_cases h0 : x.L.length = 0
  · rw [h0] at e; simp [moB] at e
  · rcases h.ol.1.2 with ⟨h1, _⟩ | ⟨g', o, cap, rfl, a1, _⟩
    · exact absurd h1 h0
    · unfold moB at e; rw [if_neg h0] at e; simp [Value.ownBlock] at e; omega
set_option maxHeartbeats 1000000 in
theorem fl_any {w : World} {lo : Nat} {E : Nat → Prop} {B : Nat} {x : Jb.J} (h : JB w lo E B x) (hf : Jb.Fit x) :
    Calls Try.prog 91 #[.pointer (some ⟨B, 0, none⟩)] w fun e w' =>
      (x.f < 60 ∧ e = .returned (.tuple #[]) ∧ JB w' lo E B { x with L := [], f := x.f + 1 } ∧ Fr lo E w w') ∨ (¬ x.f < 60 ∧ GaveUp e ∧ w' = w) := by
  obtain ⟨a, b, l, m, h⟩ := h
  obtain ⟨c0, c1, c2, c3, c4⟩ := h.jw.cells
  have z4 := h.jw.fz 4
  have z2 := (h.jw.set4 (.int .i64 (x.f + 1))).fz 2
  have c2' := (h.jw.set4 (.int .i64 (x.f + 1))).cells.2.2.1
  have g0 := hf.f0
  have g6 := hf.f60
  by_cases hx : x.f < 60
  · have HF : Hid (JB ((w.setCell ⟨B, 4, none⟩ (.int .i64 (x.f + 1))).setCell ⟨B, 2, none⟩ (.slice none 0 0)) lo E B { x with L := [], f := x.f + 1 } ∧ Fr lo E w ((w.setCell ⟨B, 4, none⟩ (.int .i64 (x.f + 1))).setCell ⟨B, 2, none⟩ (.slice none 0 0))) := hide
      ⟨⟨_, _, _, _, (h.fails (x.f + 1)).empty⟩, (below_set16 h.lob h.eB).trans (below_set16 h.lob h.eB)⟩
    clear h hf
    go_enter Try.func91, Try.ntmps91
    have hd : decide (x.f < 60) = true := decide_eq_true hx
    go_wp2_with fail
    refine (gu_yes _).mono ?_
    rintro _ _ ⟨rfl, rfl⟩
    go_wp2_with fail
    go_end0
    exact Or.inl ⟨rfl, HF.out⟩
  · clear h hf
    go_enter Try.func91, Try.ntmps91
    have hd : decide (x.f < 60) = false := decide_eq_false hx
    go_wp2_with fail
    refine (gu_no _).mono ?_
    rintro _ _ ⟨⟨u, pv, rfl⟩, rfl⟩
    exact ⟨rfl, Or.inr ⟨by omega, ⟨u, pv, rfl⟩, rfl⟩⟩
end Go.Proofs.Ytnjkdfeajlnojaa
namespace Go.Proofs.Ytnjkdfeajlnojaa
open Go.RowKit

theorem step16 {P : Program} {w : World} {ops : Array Oper} {o : Oper} {a : Act} {K : Act → World → Prop} {Q : Exit → Act → World → Prop} {E : Prop} (hgd : o.guard = none) (d s : Operand) (t t' : TypeId)
    (ho : o.op = .call { callee := .builtin .append, args := #[d, s], argTypes := #[t, t'] }) (vd vs : Value) (hd : a.eval d = vd) (hs : a.eval s = vs)
    (v' : Value) (w' : World) (hr : (Builtin.append_ #[t, t'] o.type #[vd, vs]).run P w = .ok v' w') (h : K (a.put o.dst v') w') :
    if Region.wanted o (yielded ops a.tmps) = true then Oper.wp P o a w K Q else E := by
  have hw : Region.wanted o (yielded ops a.tmps) = true := by simp [Region.wanted, hgd]
  rw [if_pos hw]
  unfold Oper.wp execOp
  simp only [ho, resolve, invoke, builtin, Sem.run_bind, Sem.run_pure, Result.andThen_ok, List.map_toArray, List.map_cons, List.map_nil, hd, hs, hr]
  exact h
theorem mv_len16 (xs : List Int) (q : Int × Int) : (Mx.mv xs q).length = xs.length := by simp [Mx.mv]
/-- What is left of the moves to come behind the first one. -/
def Rest (l' : Value) (gl ol R : Nat) : Prop := (R = 0 ∧ ∃ a c, l' = .slice a 0 c) ∨ ∃ c, l' = .slice (some ⟨gl, ol + 2, none⟩) R c ∧ R ≤ c
theorem JP.llt {w : World} {lo : Nat} {E : Nat → Prop} {B : Nat} {a b l m : Value} {x : Jb.J} (h : JP w lo E B a b l m x) : ∀ k, moB l x.L.length = some k → k < w.heap.size := fun k e => by
  by_cases h0 : x.L.length = 0
  · rw [h0] at e; simp [moB] at e
  · rcases h.ol.1.2 with ⟨h1, _⟩ | ⟨g', o, cap, rfl, a1, _⟩
    · exact absurd h1 h0
    · unfold moB at e; rw [if_neg h0] at e; simp [Value.ownBlock] at e; omega
theorem JP.conf {w w9 : World} {lo : Nat} {E : Nat → Prop} {B : Nat} {a b l m l' m' : Value} {x : Jb.J} {L' M' : List (Int × Int)} (h : JP w lo E B a b l m x) (hs : w.heap.size ≤ w9.heap.size) (hk : ∀ k, k < w.heap.size → k ≠ B → some k ≠ m.ownBlock → w9.heap[k]? = w.heap[k]?)
    (hj : JW w9 B 25 a b l' m' (.int .i64 x.f)) (hl : LV w9 lo l' L') (hlb : ∀ k, moB l' L'.length = some k → moB l x.L.length = some k) (ho : w9.ownsRow lo 41 2 m' M'.length (mce M')) (hb : ∀ g, m'.ownBlock = some g → m.ownBlock = some g ∨ w.heap.size ≤ g) :
    JP w9 lo E B a b l' m' { x with L := L', M := M' } := by
  have dm : ∀ (q : Option Nat), (∀ k, q = some k → k < w.heap.size) → Dis q m.ownBlock → Dis q m'.ownBlock := fun q hq hd k e e' => by
    rcases hb k e' with h1 | h1
    · exact hd k e h1
    · have := hq k e; omega
  exact { jw := hj, lob := h.lob, oa := own_keep2 h.oa fun k e hl => hk k hl (fun e' => h.na (e' ▸ e)) fun e' => h.am k e e'.symm, ob := own_keep2 h.ob fun k e hl => hk k hl (fun e' => h.nb (e' ▸ e)) fun e' => h.bm k e e'.symm, ol := hl, om := ho,
          na := h.na, nb := h.nb, nl := fun e => h.nl (hlb _ e), nm := fun e => by
            rcases hb B e with h1 | h1
            · exact h.nm h1
            · have := h.jw.lt; omega
          ab := h.ab, al := fun k e e' => h.al k e (hlb k e'), am := dm _ (fun k e => (h.oa.lt k e).2) h.am, bl := fun k e e' => h.bl k e (hlb k e'), bm := dm _ (fun k e => (h.ob.lt k e).2) h.bm, lm := fun k e => dm _ h.llt h.lm k (hlb k e)
          elt := fun k hk => Nat.lt_of_lt_of_le (h.elt k hk) hs, eB := h.eB, ea := h.ea, eb := h.eb, el := fun g e => h.el g (hlb g e), em := fun g e => by
            rcases hb g e with h1 | h1
            · exact h.em g h1
            · exact fun hE => by have := h.elt g hE; omega }
theorem push_mv2 {w : World} {base n : Nat} {v : Value} {xs : List Value} {x y : Int} (hown : w.ownsRow base 41 2 v n xs) (hn : n ≤ 1048576) (hb : base ≤ w.heap.size) :
    ∃ g cap w', (∀ ty, (Builtin.append_ #[23, 23] ty #[v, .slice (some ⟨w.heap.size, 0, none⟩) 1 1]).run Try.prog (w.alloc (.cells #[.int .i64 x, .int .i64 y] 41)) = .ok (.slice (some ⟨g, 0, none⟩) (n + 1) cap) w') ∧ w'.ownsRow base 41 2 (.slice (some ⟨g, 0, none⟩) (n + 1) cap) (n + 1) (xs ++ [.int .i64 x, .int .i64 y]) ∧ w.grownBy w' v.ownBlock ∧ (v.ownBlock = some g ∨ w.heap.size ≤ g) := by
  have h : (Try.prog.info? 41).map (fun i => (i.zero, i.size, i.bytes)) = some (some (.agg #[.int .i64 0, .int .i64 0]), 2, 16) := by kernel_rfl
  obtain ⟨i0, hi, hzz⟩ := Option.map_eq_some_iff.1 h
  simp only [Prod.mk.injEq] at hzz
  obtain ⟨hz0, hz1, hz2⟩ := hzz
  obtain ⟨g, cap, w', h1, h2, h3, h4, _⟩ := run_append_lies (P := Try.prog) (w := w.alloc (.cells #[.int .i64 x, .int .i64 y] 41)) 23 0 base 41 i0 _ 2 16 Try.underlying23 hi hz0 hz1 hz2 rfl (by decide) v n xs (hown.alloc _) ⟨w.heap.size, 0, none⟩ 1 1 [.int .i64 x, .int .i64 y] rfl (fun j u hj => by
      have hj2 : j = 0 ∨ j = 1 := by
        have := (List.getElem?_eq_some_iff.1 hj).1
        simp at this; omega
      rw [add_plain']
      rcases hj2 with rfl | rfl
      · simp at hj; subst hj; simp
      · simp at hj; subst hj; simp) (fun u hu => by simp at hu; rcases hu with rfl | rfl <;> rfl) (by omega) (by unfold maxLen; omega) (by omega) (by simp; omega) _ rfl
  refine ⟨g, cap, w', fun _ => h1, h2, ?_, ?_⟩
  · have hg := World.grownBy_alloc w (.cells #[.int .i64 x, .int .i64 y] 41) v.ownBlock
    exact ⟨h3.os.trans hg.os, h3.tape.trans hg.tape, h3.output.trans hg.output, Nat.le_trans hg.size h3.size, fun b hb hne => (h3.block b (Nat.lt_of_lt_of_le hb hg.size) hne).trans (hg.block b hb hne)⟩
  · rcases h4 with h4 | h4
    · exact Or.inl h4
    · exact Or.inr (by rw [h4]; simp)
/-- What the last statement of confirm leaves behind. -/
theorem cf_end {w : World} {lo : Nat} {E : Nat → Prop} {B gl ol R cl : Nat} {a b m : Value} {x : Jb.J} {q : Int × Int} {r : List (Int × Int)} (h : JP w lo E B a b (.slice (some ⟨gl, ol, none⟩) (R + 1) cl) m x) (hL : x.L = q :: r) (hR : r.length = R) (hm : x.M.length ≤ 100000) :
    ∃ g cap w', (∀ ty, (Builtin.append_ #[23, 23] ty #[m, .slice (some ⟨w.heap.size, 0, none⟩) 1 1]).run Try.prog (w.alloc (.cells #[.int .i64 q.1, .int .i64 q.2] 41)) = .ok (.slice (some ⟨g, 0, none⟩) (x.M.length + 1) cap) w') ∧
      w'.cell? ⟨B, 2, none⟩ = some (.slice (some ⟨gl, ol, none⟩) (R + 1) cl) ∧ w'.frozen? ⟨B, 2, none⟩ = false ∧
      (∀ l', (w'.setCell ⟨B, 2, none⟩ l').cell? ⟨B, 3, none⟩ = some m ∧ (w'.setCell ⟨B, 2, none⟩ l').frozen? ⟨B, 3, none⟩ = false) ∧
      ∀ l', Rest l' gl ol R → JB ((w'.setCell ⟨B, 2, none⟩ l').setCell ⟨B, 3, none⟩ (.slice (some ⟨g, 0, none⟩) (x.M.length + 1) cap)) lo E B { x with L := r, M := x.M ++ [q] } ∧ Fr lo E w ((w'.setCell ⟨B, 2, none⟩ l').setCell ⟨B, 3, none⟩ (.slice (some ⟨g, 0, none⟩) (x.M.length + 1) cap)) := by
  have hlo : lo ≤ w.heap.size := Nat.le_trans h.lob (Nat.le_of_lt h.jw.lt)
  obtain ⟨g, cap, w', hr, ho, hg, hat⟩ := push_mv2 (x := q.1) (y := q.2) h.om (by omega) hlo
  have hjw : JW w' B 25 a b (.slice (some ⟨gl, ol, none⟩) (R + 1) cl) m (.int .i64 x.f) := h.jw.keep (hg.block B h.jw.lt fun e => h.nm e.symm)
  refine ⟨g, cap, w', hr, hjw.cells.2.2.1, hjw.fz 2, fun l' => ⟨(hjw.set2 l').cells.2.2.2.1, (hjw.set2 l').fz 3⟩, fun l' hl' => ⟨?_, ?_⟩⟩
  · have hk : ∀ k, k < w.heap.size → k ≠ B → some k ≠ m.ownBlock → ((w'.setCell ⟨B, 2, none⟩ l').setCell ⟨B, 3, none⟩ (.slice (some ⟨g, 0, none⟩) (x.M.length + 1) cap)).heap[k]? = w.heap[k]? := fun k h1 h2 h3 =>
      ((Below.heap_setCell _ _ _ k h2).trans (Below.heap_setCell _ _ _ k h2)).trans (hg.block k h1 h3)
    have hgl : R ≠ 0 → gl < w.heap.size ∧ moB (.slice (some ⟨gl, ol, none⟩) (R + 1) cl) x.L.length = some gl := fun _ => by
      have e : moB (.slice (some ⟨gl, ol, none⟩) (R + 1) cl) x.L.length = some gl := by rw [hL]; simp [moB, Value.ownBlock]
      exact ⟨h.llt gl e, e⟩
    refine ⟨a, b, l', _, h.conf (by simpa using hg.size) hk ((hjw.set2 l').set3 _) ⟨⟨rfl, ?_⟩, ?_, ?_⟩ ?_ ?_ ?_⟩
    · rcases hl' with ⟨h0, a', c', rfl⟩ | ⟨c', rfl, hc'⟩
      · exact Or.inl ⟨by omega, _, _, rfl⟩
      · by_cases h0 : R = 0
        · exact Or.inl ⟨by omega, _, _, by rw [h0]⟩
        · obtain ⟨g1, g2⟩ := hgl h0
          rcases h.ol.1.2 with ⟨h1, _⟩ | ⟨g', o', c2, e, _, f1, f2⟩
          · rw [hL] at h1; simp at h1
          · simp only [Value.slice.injEq, Option.some.injEq, Addr.mk.injEq] at e
            obtain ⟨⟨rfl, rfl, _⟩, _, _⟩ := e
            have hb := hk gl g1 (fun e => h.nl (e ▸ g2)) (fun e => h.lm gl g2 e.symm)
            refine Or.inr ⟨gl, ol + 2, c', by rw [hR], ?_, ?_, ?_⟩
            · have := hg.size; simp; omega
            · refine FAt.keep (w := w) (fun i hi => ?_) hb
              have := f1 (i + 1) (by rw [hL]; simp; omega)
              rw [hL, List.getD_cons_succ] at this
              rw [show ol + 2 + i * 2 = ol + (i + 1) * 2 by omega]
              exact this
            · refine LooseO.keep (w := w) (fun j hj => ?_) hb
              have := f2 (j + 2) (by rw [hL]; simp; omega)
              rw [show ol + 2 + j = ol + (j + 2) by omega]
              exact this
    · intro k e
      rcases hl' with ⟨h0, a', c', rfl⟩ | ⟨c', rfl, hc'⟩
      · rw [hR, h0] at e; simp [moB] at e
      · by_cases h0 : R = 0
        · rw [hR, h0] at e; simp [moB] at e
        · unfold moB at e; rw [hR, if_neg h0] at e; simp [Value.ownBlock] at e
          exact h.ol.2.1 k (by rw [(hgl h0).2, e])
    · rcases hl' with ⟨h0, a', c', rfl⟩ | ⟨c', rfl, hc'⟩
      · exact ⟨_, _, by rw [hR, h0], by omega⟩
      · exact ⟨_, _, by rw [hR], by omega⟩
    · intro k e
      rcases hl' with ⟨h0, a', c', rfl⟩ | ⟨c', rfl, hc'⟩
      · rw [hR, h0] at e; simp [moB] at e
      · by_cases h0 : R = 0
        · rw [hR, h0] at e; simp [moB] at e
        · unfold moB at e; rw [hR, if_neg h0] at e; simp [Value.ownBlock] at e
          rw [(hgl h0).2, e]
    · rw [mce_snoc, List.length_append]
      have nB : (Value.slice (some ⟨g, 0, none⟩) (x.M.length + 1) cap).ownBlock ≠ some B := fun e => by
        rcases hat with h1 | h1
        · exact h.nm (h1.trans (by simpa [Value.ownBlock] using e))
        · have := h.jw.lt; simp [Value.ownBlock] at e; omega
      exact own_set16 (own_set16 ho nB) nB
    · intro k e
      simp [Value.ownBlock] at e
      subst e
      exact hat
  · have h1 : Fr lo E w w' := Fr.grown hg hlo h.elt fun k e => ⟨(h.om.lt k e).1, h.em k e⟩
    exact h1.trans ((below_set16 h.lob h.eB).trans (below_set16 h.lob h.eB))
set_option maxRecDepth 100000 in
set_option maxHeartbeats 4000000 in
theorem cf_yes {w : World} {lo : Nat} {E : Nat → Prop} {B : Nat} {x : Jb.J} {q : Int × Int} {r : List (Int × Int)} (h : JB w lo E B x) (hf : Jb.Fit x) (hL : x.L = q :: r) (hM : x.M.length < 60) :
    Calls Try.prog 90 #[.pointer (some ⟨B, 0, none⟩)] w fun e w' => e = .returned (.tuple #[]) ∧ JB w' lo E B { x with xs := Mx.mv x.xs q, L := r, M := x.M ++ [q] } ∧ Fr lo E w w' := by
  obtain ⟨a, b, l, m, h⟩ := h
  have hlow : lo ≤ w.heap.size := Nat.le_trans h.lob (Nat.le_of_lt h.jw.lt)
  obtain ⟨am, cm, rfl⟩ := own_formM h.om
  obtain ⟨hcan, _⟩ := hf.head hL
  obtain ⟨f, t⟩ := q
  obtain ⟨⟨a1, a2⟩, ⟨a3, a4⟩, _, _⟩ := Mx.can_in hcan
  obtain ⟨f', rfl⟩ := Int.eq_ofNat_of_zero_le a1
  obtain ⟨t', rfl⟩ := Int.eq_ofNat_of_zero_le a3
  obtain ⟨R, hR⟩ : ∃ R, r.length = R := ⟨_, rfl⟩
  have hLl : x.L.length = R + 1 := by rw [hL]; simp [hR]
  have hR20 : R ≤ 20 := by have := hf.few; omega
  have hxl := hf.two
  obtain ⟨gl, ol, cl, rfl, hcl, l0, l1⟩ : ∃ gl ol cl, l = .slice (some ⟨gl, ol, none⟩) (R + 1) cl ∧ R + 1 ≤ cl ∧ w.cell? ⟨gl, ol, none⟩ = some (.int .i64 (f' : Int)) ∧ w.cell? ⟨gl, ol + 1, none⟩ = some (.int .i64 (t' : Int)) := by
    rcases h.ol.1.2 with ⟨h0, _⟩ | ⟨gl, ol, cl, rfl, gl1, gl2, gl3⟩
    · omega
    · obtain ⟨l0, l1⟩ := gl2 0 (by omega)
      rw [hL] at l0 l1
      obtain ⟨_, c', e, hc⟩ := h.ol.2.2
      cases e
      exact ⟨gl, ol, cl, by rw [hLl], by omega, by simpa using l0, by simpa using l1⟩
  have hj := h.jw
  obtain ⟨c0, c1, c2, c3, c4⟩ := hj.cells
  obtain ⟨ga, ca, rfl⟩ : ∃ ga ca, a = .slice (some ⟨ga, 0, none⟩) x.xs.length ca := by
    rcases h.oa.2 with ⟨rfl, h0⟩ | ⟨ga, ca, cur, rfl, _⟩
    · omega
    · exact ⟨ga, ca, rfl⟩
  obtain ⟨K, hK⟩ : ∃ K, K = w.heap.size := ⟨_, rfl⟩
  have HELT := hide (show ∀ k, E k → k < K from fun k hk => hK ▸ h.elt k hk)
  have hga : ga < K := by have := (h.oa.lt ga rfl).2; omega
  have hgl0 : lo ≤ ga := (h.oa.lt ga rfl).1
  have hb1 := below_new w (.cells #[.int .i64 (f' : Int), .int .i64 (t' : Int)] 41)
  have N1 := MW.new w (.int .i64 (f' : Int)) (.int .i64 (t' : Int))
  have sz1 : (w.alloc (.cells #[.int .i64 (f' : Int), .int .i64 (t' : Int)] 41)).heap.size = w.heap.size + 1 := World.size_alloc _ _
  have H1 := h.below hb1
  have HC := hide (⟨c0, c2, c3, l0, l1⟩ : _ ∧ _ ∧ _ ∧ _ ∧ _)
  have HH1 := hide H1
  have HN1 := hide N1
  have HSZ := hide sz1
  have HB1 := hide hb1
  have HX := hide hxl
  have hN60 : (((x.M.length : Nat) : Int) < 60) := by omega
  have hd : decide ((x.M.length : Int) < 60) = true := decide_eq_true hN60
  have r0 : (0 : Int) < ((R + 1 : Nat) : Int) := by omega
  clear hj c1 c4 hb1 N1 sz1 H1 hxl HC
  clear h
  go_enter Try.func90, Try.ntmps90
  go_wp2_with fail
  refine (gu_yes _).mono ?_
  rintro _ w0 ⟨rfl, rfl⟩
  go_upto_region 2 with fail
  have hW := HSZ.out
  generalize World.alloc _ (.cells #[.int .i64 (f' : Int), .int .i64 (t' : Int)] 41) = W at *
  rw [← hK] at *
  have hbd : Below W.heap.size W W.drew := (Below.refl _ _).drew
  have HJd := hide (HH1.out.below hbd)
  have HNd := hide (HN1.out.below hbd)
  have HBd := hide (HB1.out.trans (hbd.mono (by omega)))
  have hSd : W.drew.cell? ⟨B, 0, none⟩ = some (.slice (some ⟨ga, 0, none⟩) x.xs.length ca) ∧ W.drew.cell? ⟨K, 0, none⟩ = some (.int .i64 (f' : Int)) ∧ W.drew.cell? ⟨K, 1, none⟩ = some (.int .i64 (t' : Int)) := ⟨HJd.out.jw.cells.1, HNd.out.cells.1, HNd.out.cells.2⟩
  have HGA := hide (show ga < K from hga)
  have HGL := hide (show lo ≤ ga from hgl0)
  have HLO := hide hlow
  have hmg := mg_any (f := f') (t := t') rfl (by omega) (by omega) HJd.out.oa
  have HAFT : Hid (∀ w1 : World, w1.ownsRow lo 3 1 (.slice (some ⟨ga, 0, none⟩) x.xs.length ca) x.xs.length (ints (Mx.mv x.xs ((f' : Int), (t' : Int)))) → W.drew.grownBy w1 (some ga) →
      JP w1 lo E B (.slice (some ⟨ga, 0, none⟩) x.xs.length ca) b (.slice (some ⟨gl, ol, none⟩) (R + 1) cl) (.slice am x.M.length cm) { x with xs := Mx.mv x.xs ((f' : Int), (t' : Int)) } ∧ MW w1 K (.int .i64 (f' : Int)) (.int .i64 (t' : Int)) ∧ Fr lo E w0 w1) := hide fun w1 hown hgr => by
    have hb0 : Fr lo E w0 W.drew := ⟨HBd.out.mono (Nat.le_trans HGL.out (Nat.le_of_lt HGA.out)), fun k hk => HBd.out.block k (HELT.out k hk)⟩
    refine ⟨HJd.out.moved hgr (mv_len16 _ _) hown, ?_, hb0.trans (Fr.grown hgr (Nat.le_trans HJd.out.lob (Nat.le_of_lt HJd.out.jw.lt)) HJd.out.elt fun k e => by cases e; exact ⟨HGL.out, HJd.out.ea _ rfl⟩)⟩
    exact (hgr.block K HNd.out.lt (fun e => by cases e; exact absurd HGA.out (Nat.lt_irrefl _))).trans HNd.out
  clear hbd HH1 HN1 HB1
  go_region_held3 (fun w' => w'.cell? ⟨B, 0, none⟩ = some (.slice (some ⟨ga, 0, none⟩) x.xs.length ca) ∧ w'.cell? ⟨K, 0, none⟩ = some (.int .i64 (f' : Int)) ∧ w'.cell? ⟨K, 1, none⟩ = some (.int .i64 (t' : Int)))
    (first | exact hSd | exact hS1 | assumption | fail)
    ((go_at_call 61; refine hmg.mono ?_; rintro e w1 ⟨rfl, hown, hgr⟩; obtain ⟨HJ2, HN2, hB2⟩ := HAFT.out w1 hown hgr; have hS1 := (⟨HJ2.jw.cells.1, HN2.cells.1, HN2.cells.2⟩ : _ ∧ _ ∧ _)))
  have hbd : Below w1.heap.size w1 w1.drew := (Below.refl _ _).drew
  have hx2 : ({ x with xs := Mx.mv x.xs ((f' : Int), (t' : Int)) } : Jb.J).L = ((f' : Int), (t' : Int)) :: r := hL
  obtain ⟨gg, cap, w6, hr6, c6, f6, d6, hf6⟩ := cf_end (HJ2.below hbd) hx2 hR (by show x.M.length ≤ 100000; omega)
  have HF6 := hide hf6
  have hr6' : ∀ ty, (Builtin.append_ #[23, 23] ty #[.slice am x.M.length cm, .slice (some ⟨w1.heap.size, 0, none⟩) 1 1]).run Try.prog ((w1.alloc (.cells #[.int .i64 (f' : Int), .int .i64 (t' : Int)] 41)).drew) = .ok (.slice (some ⟨gg, 0, none⟩) (x.M.length + 1) cap) w6 := hr6
  have HB3 := hide (hB2.trans (Fr.drew lo E w1))
  have c2 := HJ2.jw.cells.2.2.1
  have c3 := HJ2.jw.cells.2.2.2.1
  have k0 := HN2.cells.1
  have k1 := HN2.cells.2
  have ca2 : ∀ o, (w1.alloc o).cell? ⟨B, 2, none⟩ = some (.slice (some ⟨gl, ol, none⟩) (R + 1) cl) := fun o => (HJ2.jw.alloc o).cells.2.2.1
  have ca3 : ∀ o, (w1.alloc o).cell? ⟨B, 3, none⟩ = some (.slice am x.M.length cm) := fun o => (HJ2.jw.alloc o).cells.2.2.2.1
  have dl : ∀ l', (w6.setCell ⟨B, 2, none⟩ l').cell? ⟨B, 3, none⟩ = some (.slice am x.M.length cm) := fun l' => (d6 l').1
  have df : ∀ l', (w6.setCell ⟨B, 2, none⟩ l').frozen? ⟨B, 3, none⟩ = false := fun l' => (d6 l').2
  clear HJ2 HN2 hf6 hr6 d6 hbd hmg HAFT HJd HNd HBd hSd hS1 hown hgr
  have r1 : (1 : Int) ≤ (R : Int) + 1 := by omega
  obtain ⟨AD, hAD⟩ : ∃ AD : Option Addr, (if cl = 1 then some (⟨gl, ol, none⟩ : Addr) else some ⟨gl, ol + 2, none⟩) = AD := ⟨_, rfl⟩
  obtain ⟨hf1, hf2⟩ := HF6.out (.slice AD R (cl - 1)) (by
    by_cases h1 : cl = 1
    · exact Or.inl ⟨by omega, AD, cl - 1, by rw [show R = 0 by omega]⟩
    · exact Or.inr ⟨cl - 1, by rw [← hAD, if_neg h1], by omega⟩)
  have HE : Hid (JB ((w6.setCell ⟨B, 2, none⟩ (.slice AD R (cl - 1))).setCell ⟨B, 3, none⟩ (.slice (some ⟨gg, 0, none⟩) (x.M.length + 1) cap)) lo E B { x with xs := Mx.mv x.xs ((f' : Int), (t' : Int)), L := r, M := x.M ++ [((f' : Int), (t' : Int))] } ∧ Fr lo E w0 ((w6.setCell ⟨B, 2, none⟩ (.slice AD R (cl - 1))).setCell ⟨B, 3, none⟩ (.slice (some ⟨gg, 0, none⟩) (x.M.length + 1) cap))) := hide ⟨hf1, HB3.out.trans hf2⟩
  clear hf1 hf2 HF6
  go_upto_region 3 with fail
  go_region_law ((refine step16 (by rfl) (.tmp 32) (.tmp 34) 23 23 (by rfl) (.slice am x.M.length cm) (.slice (some ⟨w1.heap.size, 0, none⟩) 1 1) (by simp [go_sem]) (by simp [go_sem]) (.slice (some ⟨gg, 0, none⟩) (x.M.length + 1) cap) w6 (hr6' _) ?_))
  all_goals
    go_end0
    exact ⟨rfl, HE.out⟩
end Go.Proofs.Ytnjkdfeajlnojaa
namespace Go.Proofs.Ytnjkdfeajlnojaa
open Go.RowKit

set_option maxRecDepth 100000 in
theorem ix10_0 (W : World) : (Instr.index 99 (Value.agg #[Value.func (Fn.func 79) #[] #[], Value.func (Fn.func 80) #[] #[]]) (Value.int IntKind.i64 0)).run Try.prog W = .ok (Value.func (Fn.func 79) #[] #[]) W := rfl
set_option maxRecDepth 100000 in
theorem ix10_1 (W : World) : (Instr.index 99 (Value.agg #[Value.func (Fn.func 79) #[] #[], Value.func (Fn.func 80) #[] #[]]) (Value.int IntKind.i64 1)).run Try.prog W = .ok (Value.func (Fn.func 80) #[] #[]) W := rfl
set_option maxRecDepth 20000 in
set_option maxHeartbeats 4000000 in
theorem nm_any {a b : Option Addr} {n c d : Nat} {xs ws : List Int} {w : World} (hx : xs.length = n) (hy : ws.length = n) (hn : n ≤ 1000) (ha : ARow w a xs) (hbw : ARow w b ws) :
    Calls Try.prog 60 #[.agg #[.slice a n c, .slice b n d]] w (NmP w (Mx.nextM xs ws)) := by
  have bW1 := below_new w (.cells #[.slice a n c, .slice b n d] 75)
  have bW2 := below_new (w.alloc (.cells #[.slice a n c, .slice b n d] 75)) (.cells #[.int .i64 0, .int .i64 0] 41)
  have hb := bW1.trans (bW2.mono bW1.size)
  have c0 : ((w.alloc (.cells #[.slice a n c, .slice b n d] 75)).alloc (.cells #[.int .i64 0, .int .i64 0] 41)).cell? ⟨w.heap.size, 0, none⟩ = some (.slice a n c) := by simp
  have c1 : ((w.alloc (.cells #[.slice a n c, .slice b n d] 75)).alloc (.cells #[.int .i64 0, .int .i64 0] 41)).cell? ⟨w.heap.size, 1, none⟩ = some (.slice b n d) := by simp
  have r0 : ((w.alloc (.cells #[.slice a n c, .slice b n d] 75)).alloc (.cells #[.int .i64 0, .int .i64 0] 41)).cell? ⟨w.heap.size + 1, 0, none⟩ = some (.int .i64 0) := by simp
  have r1 : ((w.alloc (.cells #[.slice a n c, .slice b n d] 75)).alloc (.cells #[.int .i64 0, .int .i64 0] 41)).cell? ⟨w.heap.size + 1, 1, none⟩ = some (.int .i64 0) := by simp
  have r2 : ((w.alloc (.cells #[.slice a n c, .slice b n d] 75)).alloc (.cells #[.int .i64 0, .int .i64 0] 41)).frozen? ⟨w.heap.size + 1, 0, none⟩ = false := by simp [go_sem]
  have r3 : ((w.alloc (.cells #[.slice a n c, .slice b n d] 75)).alloc (.cells #[.int .i64 0, .int .i64 0] 41)).frozen? ⟨w.heap.size + 1, 1, none⟩ = false := by simp [go_sem]
  have hz : ((w.alloc (.cells #[.slice a n c, .slice b n d] 75)).alloc (.cells #[.int .i64 0, .int .i64 0] 41)).heap.size = w.heap.size + 2 := by simp
  obtain ⟨W2, hW2⟩ : ∃ W, W = (w.alloc (.cells #[.slice a n c, .slice b n d] 75)).alloc (.cells #[.int .i64 0, .int .i64 0] 41) := ⟨_, rfl⟩
  rw [← hW2] at hb c0 c1 r0 r1 r2 r3 hz
  have HA := hide (ha.below hb)
  have HBB := hide (hbw.below hb)
  have HB := hide hb
  have HW2 := hide hW2.symm
  obtain ⟨B, hB⟩ : ∃ B, B = w.heap.size := ⟨_, rfl⟩
  rw [← hB] at c0 c1 r0 r1 r2 r3 hz
  have HBe := hide hB.symm
  have HBS := hide fun (W : World) (h : Below w.heap.size w W) (x y : Value) => ((h.setCell (p := ⟨B + 1, 0, none⟩) (by show w.heap.size ≤ B + 1; omega) x).setCell (p := ⟨B + 1, 1, none⟩) (by show w.heap.size ≤ B + 1; omega) y)
  have HMH := hide fun (W : World) (h : Below W2.heap.size W2 W) => mh_any (w := W) (c := c) (d := d) hx hy hn (HA.out.below h) (HBB.out.below h)
  have HMA := hide fun (W : World) (h : Below W2.heap.size W2 W) => ma_any (w := W) (c := c) (d := d) hx hy hn (HA.out.below h) (HBB.out.below h)
  have HNH := hide fun (m : Int × Int) (h : homeM xs ws = some m) => next_h h
  have HNA := hide fun (h : homeM xs ws = none) => next_a h
  have HFAC : Hid (∀ W, Below W2.heap.size W2 W → W.cell? ⟨B, 0, none⟩ = some (.slice a n c) ∧ W.cell? ⟨B, 1, none⟩ = some (.slice b n d) ∧ W.cell? ⟨B + 1, 0, none⟩ = some (.int .i64 0) ∧ W.cell? ⟨B + 1, 1, none⟩ = some (.int .i64 0) ∧ W.frozen? ⟨B + 1, 0, none⟩ = false ∧ W.frozen? ⟨B + 1, 1, none⟩ = false ∧ Below w.heap.size w W) := hide fun W h =>
    ⟨(h.cell (p := ⟨B, 0, none⟩) (by show B < _; omega)).trans c0, (h.cell (p := ⟨B, 1, none⟩) (by show B < _; omega)).trans c1, (h.cell (p := ⟨B + 1, 0, none⟩) (by show B + 1 < _; omega)).trans r0, (h.cell (p := ⟨B + 1, 1, none⟩) (by show B + 1 < _; omega)).trans r1, (h.frozen (p := ⟨B + 1, 0, none⟩) (by show B + 1 < _; omega)).trans r2, (h.frozen (p := ⟨B + 1, 1, none⟩) (by show B + 1 < _; omega)).trans r3, HB.out.trans (h.mono HB.out.size)⟩
  generalize homeM xs ws = OH at *
  generalize asideM xs ws = OA at *
  generalize Mx.nextM xs ws = ON at *
  have bA := hide (below_new W2 (.cells #[.func (.func 79) #[] #[], .func (.func 80) #[] #[]] 99))
  clear bW1 bW2 hb hW2 hB ha hbw hx hy c0 c1 r0 r1 r2 r3 HA HBB hz
  go_enter Try.func60, Try.ntmps60
  go_upto_region 1 with fail
  rw [HW2.out, HBe.out]
  clear HW2 HBe
  go_wp2_with fail
  go_loopw [3, 6, 7, 8, 11] (fun s3 _ _ _ s wr => ∃ k : Nat, s3 = .bool false ∧ s = .int .i64 k ∧ k ≤ 2 ∧ Hid (Below W2.heap.size W2 wr) ∧ Hid (1 ≤ k → OH = none) ∧ Hid (2 ≤ k → OA = none)) (fun _ _ _ _ s _ => 2 - (intOf s).toNat)
  case atStart => exact ⟨0, rfl, rfl, by omega, hide (below_new _ _), hide fun h => absurd h (by omega), hide fun h => absurd h (by omega)⟩
  case round =>
    obtain ⟨k, rfl, rfl, hk, HBr, HK1, HK2⟩ := hrel
    obtain ⟨x0, x1, x2, x3, x4, x5, _⟩ := HFAC.out _ HBr.out
    have j0 := ix10_0
    have j1 := ix10_1
    by_cases h0 : k = 0
    · subst h0
      have HC := hide (HMH.out _ HBr.out)
      go_wp2_with fail
      refine HC.out.mono ?_
      rintro e w4 ⟨F, T, s, rfl, ho, hb4⟩
      have HOo := hide ho
      have HB4 := hide (HBr.out.trans (hb4.mono HBr.out.size))
      clear ho hb4
      have bV := below_new w4 (.cells #[.int .i64 F, .int .i64 T] 41)
      have HB5 := hide (HB4.out.trans (bV.mono HB4.out.size))
      obtain ⟨x0, x1, x2, x3, x4, x5, _⟩ := HFAC.out _ HB5.out
      have v0 : (w4.alloc (.cells #[.int .i64 F, .int .i64 T] 41)).cell? ⟨w4.heap.size, 0, none⟩ = some (.int .i64 F) := (by simp)
      have v1 : (w4.alloc (.cells #[.int .i64 F, .int .i64 T] 41)).cell? ⟨w4.heap.size, 1, none⟩ = some (.int .i64 T) := (by simp)
      clear bV HC
      cases s
      · have HN : Hid (OH = none) := HOo
        go_wp2_with fail
        go_roundw
        case rel => exact ⟨0 + 1, rfl, by go_num, by omega, HB5, hide fun _ => HN.out, hide fun h => absurd h (by omega)⟩
        case measure => simp only [intOf]; omega
      · have HN : Hid (OH = some (F, T)) := HOo
        have HFIN := hide (HBS.out _ (HFAC.out _ HB5.out).2.2.2.2.2.2 (.int .i64 F) (.int .i64 T))
        go_wp2_with fail
        exact bodyPost_ret (v := .tuple #[.agg #[.int .i64 F, .int .i64 T], .bool true]) (by simp [results, Try.results60, go_sem, *]) rfl ⟨F, T, true, rfl, HNH.out _ HN.out, HFIN.out⟩
    · by_cases h1 : k = 1
      · subst h1
        have HOH := HK1.out (by omega)
        have HK1x : Hid (1 ≤ 1 + 1 → OH = none) := hide fun _ => HOH
        have HOHh := hide HOH
        clear HOH
        have HC := hide (HMA.out _ HBr.out)
        go_wp2_with fail
        refine HC.out.mono ?_
        rintro e w4 ⟨F, T, s, rfl, ho, hb4⟩
        have HOo := hide ho
        have HB4 := hide (HBr.out.trans (hb4.mono HBr.out.size))
        clear ho hb4
        have bV := below_new w4 (.cells #[.int .i64 F, .int .i64 T] 41)
        have HB5 := hide (HB4.out.trans (bV.mono HB4.out.size))
        obtain ⟨x0, x1, x2, x3, x4, x5, _⟩ := HFAC.out _ HB5.out
        have v0 : (w4.alloc (.cells #[.int .i64 F, .int .i64 T] 41)).cell? ⟨w4.heap.size, 0, none⟩ = some (.int .i64 F) := (by simp)
        have v1 : (w4.alloc (.cells #[.int .i64 F, .int .i64 T] 41)).cell? ⟨w4.heap.size, 1, none⟩ = some (.int .i64 T) := (by simp)
        clear bV HC
        cases s
        · have HN : Hid (OA = none) := HOo
          go_wp2_with fail
          go_roundw
          case rel => exact ⟨1 + 1, rfl, by go_num, by omega, HB5, HK1x, hide fun _ => HN.out⟩
          case measure => simp only [intOf]; omega
        · have HN : Hid (OA = some (F, T)) := HOo
          have HFIN := hide (HBS.out _ (HFAC.out _ HB5.out).2.2.2.2.2.2 (.int .i64 F) (.int .i64 T))
          go_wp2_with fail
          exact bodyPost_ret (v := .tuple #[.agg #[.int .i64 F, .int .i64 T], .bool true]) (by simp [results, Try.results60, go_sem, *]) rfl ⟨F, T, true, rfl, (HNA.out HOHh.out).trans HN.out, HFIN.out⟩
      · obtain rfl : k = 2 := by omega
        have HN := hide ((HNA.out (HK1.out (by omega))).trans (HK2.out (by omega)))
        have HFIN := hide (HBS.out _ (HFAC.out _ HBr.out).2.2.2.2.2.2 (.int .i64 0) (.int .i64 0))
        go_wp2_with fail
        exact bodyPost_ret (v := .tuple #[.agg #[.int .i64 0, .int .i64 0], .bool false]) (by simp [results, Try.results60, go_sem, *]) rfl ⟨0, 0, false, rfl, HN.out, HFIN.out⟩
end Go.Proofs.Ytnjkdfeajlnojaa
namespace Go.Proofs.Ytnjkdfeajlnojaa.Mx

open Classical in
/-- What holds while moves are planned: gk of them are still to come. -/
def PI (n gk : Nat) (xs ws cur : List Int) (p : List (Int × Int)) : Prop :=
  cur.length = n ∧ Mv.Two n (fn cur) (fn ws) ∧ Mv.need n (fn cur) (fn ws) = gk ∧ p.length + gk ≤ 16 ∧ plan 20 xs ws = p ++ plan (20 - p.length) cur ws
open Classical in
theorem pi_start {n : Nat} {xs ws : List Int} (h : sameB xs ws = true) (hx : xs.length = n) : ∃ gk, PI n gk xs ws xs [] := by
  obtain ⟨_, h2⟩ := same_two h hx
  have hn := good_len (same_good h).1
  have := Mv.need_bd h2
  exact ⟨Mv.need n (fn xs) (fn ws), hx, h2, rfl, by simp; omega, rfl⟩
theorem pi_step {n gk : Nat} {xs ws cur : List Int} {p : List (Int × Int)} {m : Int × Int} (h : PI n gk xs ws cur p) (hw : ws.length = n) (hm : nextM cur ws = some m) : ∃ f t, Nx n cur ws m f t ∧ 0 < gk ∧ PI n (gk - 1) xs ws (mv cur m) (p ++ [m]) := by
  obtain ⟨h1, h2, h3, h4, h5⟩ := h
  obtain ⟨⟨f, t, hn⟩, hd⟩ := next_yes h1 hw h2 hm
  refine ⟨f, t, hn, by omega, by rw [mv_len, h1], hn.two, by omega, by simp; omega, ?_⟩
  have e : 20 - p.length = (20 - (p ++ [m]).length) + 1 := by simp; omega
  rw [h5, e]
  simp only [plan, hm, List.append_assoc, List.cons_append, List.nil_append]
theorem pi_end {n gk : Nat} {xs ws cur : List Int} {p : List (Int × Int)} (h : PI n gk xs ws cur p) (hm : nextM cur ws = none) : plan 20 xs ws = p := by
  obtain ⟨_, _, _, h4, h5⟩ := h
  have e : 20 - p.length = (20 - p.length - 1) + 1 := by omega
  rw [h5, e]
  simp [plan, hm]
end Go.Proofs.Ytnjkdfeajlnojaa.Mx
namespace Go.Proofs.Ytnjkdfeajlnojaa
open Go.RowKit
theorem MO.low {w : World} {lo lo' hi n : Nat} {v : Value} {L : List (Int × Int)} (h : MO w lo hi v n L) (hl : lo' ≤ lo) : MO w lo' hi v n L := by
  obtain ⟨h1, h2, h3⟩ := h
  refine ⟨h1, h2, ?_⟩
  rcases h3 with h3 | ⟨g, cap, e, a1, a2, a3⟩
  · exact Or.inl h3
  · exact Or.inr ⟨g, cap, e, by omega, a2, a3⟩
/-- Rows of which one lies below k, the other from k on. -/
theorem kept_hi {w w' : World} {base e s n k g : Nat} {v : Value} {xs : List Value} (h : w.ownsRow base e s v n xs) (hk : k ≤ base) (hg : w.grownBy w' (some g)) (hgk : g < k) : w'.ownsRow base e s v n xs :=
  h.kept hg (Or.inr fun e => by have := (h.lt g e).1; omega)
theorem kept_lo {w w' : World} {base base' e s n e' s' n' k g cap : Nat} {v : Value} {xs ys : List Value} (h : w.ownsRow base e s (.slice (some ⟨g, 0, none⟩) n cap) n xs) (h' : w.ownsRow base' e' s' v n' ys) (hk : k ≤ base') (hg : w.grownBy w' v.ownBlock) (hgk : g < k) : w'.ownsRow base e s (.slice (some ⟨g, 0, none⟩) n cap) n xs :=
  h.kept hg (Or.inr fun e => by have := (h'.lt g e.symm).1; omega)
theorem pbox_hi {w w' : World} {B : Nat} {v0 v1 : Value} {q : Option Nat} (h : PBox w B v0 v1) (hg : w.grownBy w' q) (hq : ∀ b, q = some b → b ≠ B) : PBox w' B v0 v1 := by
  have hb : w'.heap[B]? = w.heap[B]? := hg.block B h.2.2 (fun e => hq B e.symm rfl)
  exact ⟨(World.cell?_of_block (w := w) (a := ⟨B, 0, none⟩) hb).trans h.1, (World.cell?_of_block (w := w) (a := ⟨B, 1, none⟩) hb).trans h.2.1, Nat.lt_of_lt_of_le h.2.2 hg.size⟩
set_option maxHeartbeats 400000 in
theorem pm_no {a b : Option Addr} {n m c d : Nat} {xs ws : List Int} {w : World} (HX : Hid (xs.length = n)) (HY : Hid (ws.length = m)) (hc : n ≤ c) (hd : m ≤ d) (HA : Hid (ARow w a xs)) (HB : Hid (ARow w b ws)) (HG : Hid (Mx.sameB xs ws = false)) :
    Calls Try.prog 35 #[.slice a n c, .slice b m d] w fun e w' => e = .returned (.tuple #[.slice none 0 0, .bool false]) ∧ Below w.heap.size w w' := by
  go_enter Try.func35, Try.ntmps35
  go_wp2_with fail
  refine (asg_eq HX HY hc hd HA HB HG).mono ?_
  rintro e w1 ⟨rfl, hb1⟩
  have HB1 := hide hb1
  clear hb1
  go_wp2_with fail
  go_ret2
  exact ⟨rfl, HB1.out⟩
set_option maxRecDepth 20000 in
set_option maxHeartbeats 4000000 in
theorem pm_yes {a b : Option Addr} {n c d : Nat} {xs ws : List Int} {w : World} (HX : Hid (xs.length = n)) (HY : Hid (ws.length = n)) (hc : n ≤ c) (hd : n ≤ d) (HA : Hid (ARow w a xs)) (HBR : Hid (ARow w b ws)) (HG : Hid (Mx.sameB xs ws = true)) :
    Calls Try.prog 35 #[.slice a n c, .slice b n d] w fun e w' => ∃ v, e = .returned (.tuple #[v, .bool true]) ∧ Below w.heap.size w w' ∧ w'.ownsRow w.heap.size 41 2 v (Mx.plan 20 xs ws).length (mce (Mx.plan 20 xs ws)) := by
  have hn := Mx.good_len (Mx.same_good HG.out).1
  rw [HX.out] at hn
  obtain ⟨n2, n9⟩ := hn
  obtain ⟨g0, hp0⟩ := Mx.pi_start HG.out HX.out
  have HP0 := hide hp0
  have HST := hide fun (gk : Nat) (cur : List Int) (p : List (Int × Int)) (m : Int × Int) (h : Mx.PI n gk xs ws cur p) (hm : Mx.nextM cur ws = some m) => Mx.pi_step h HY.out hm
  have HEN := hide fun (gk : Nat) (cur : List Int) (p : List (Int × Int)) (h : Mx.PI n gk xs ws cur p) (hm : Mx.nextM cur ws = none) => Mx.pi_end h hm
  have HLN := hide fun (gk : Nat) (cur : List Int) (p : List (Int × Int)) (h : Mx.PI n gk xs ws cur p) => show cur.length = n ∧ p.length ≤ 16 from ⟨h.1, by have := h.2.2.2.1; omega⟩
  generalize Mx.plan 20 xs ws = PL at *
  clear hp0
  go_enter Try.func35, Try.ntmps35
  go_wp2_with fail
  refine (asg_eq HX HY hc hd HA HBR HG).mono ?_
  rintro e w1 ⟨rfl, hb1⟩
  have HB1 := hide hb1
  obtain ⟨b0, o0, rfl, hb0, hcell⟩ := (HA.out.below hb1).resolve_left (fun e => by have := HX.out; rw [e] at this; simp at this; omega)
  have HCL := hide (clone_any (c := c) HX.out (by omega) hcell)
  clear hb1 hcell
  go_wp2_with fail
  refine HCL.out.mono ?_
  rintro e w2 ⟨v, rfl, hb2, own2⟩
  obtain ⟨g, cap, rfl, hg0, hg1⟩ := own_some10 own2 (by omega)
  have HB2 := hide (HB1.out.trans (hb2.mono HB1.out.size))
  have hgw : w.heap.size ≤ g := by have := HB1.out.size; omega
  have bV := below_new w2 (.cells #[.slice (some ⟨g, 0, none⟩) n cap, .slice b n d] 75)
  have hbx := PBox.new w2 (.slice (some ⟨g, 0, none⟩) n cap) (.slice b n d) 75
  have HO3 := hide (g_own (owns_low own2 HB1.out.size) bV)
  have HB3 := hide (HB2.out.trans (bV.mono HB2.out.size))
  obtain ⟨W3, hW3⟩ : ∃ W, W = w2.alloc (.cells #[.slice (some ⟨g, 0, none⟩) n cap, .slice b n d] 75) := ⟨_, rfl⟩
  rw [← hW3] at hbx HO3 HB3
  have HW3 := hide hW3.symm
  obtain ⟨BC, hBC⟩ : ∃ B, B = w2.heap.size := ⟨_, rfl⟩
  rw [← hBC] at hbx
  have HBC := hide hBC.symm
  have hgC : g ≠ BC := by omega
  have hgBC : g < BC := by omega
  have hwC : w.heap.size ≤ BC := by have := HB2.out.size; omega
  have HPB := hide hbx
  have hz3 := HB3.out.size
  clear own2 hb2 bV hbx hW3 hBC HCL
  go_upto_region 4 with fail
  rw [HW3.out, HBC.out]
  clear HW3 HBC
  go_wp2_with fail
  go_loopg [4, 5, 7, 8, 9] g0 (fun gk s4 s5 v _ _ wr => ∃ (cur : List Int) (p : List (Int × Int)), s4 = .slice none 0 0 ∧ s5 = .bool false ∧ Hid (Mx.PI n gk xs ws cur p) ∧ Hid (wr.ownsRow w.heap.size 3 1 (.slice (some ⟨g, 0, none⟩) n cap) n (ints cur)) ∧ Hid (wr.ownsRow W3.heap.size 41 2 v p.length (mce p)) ∧ Hid (PBox wr BC (.slice (some ⟨g, 0, none⟩) n cap) (.slice b n d)) ∧ Hid (Below w.heap.size w wr) ∧ W3.heap.size ≤ wr.heap.size)
  case atStart => exact ⟨xs, [], rfl, rfl, HP0, HO3, hide (World.ownsRow_nil _ _ _ _), HPB, HB3, Nat.le_refl _⟩
  case round =>
    obtain ⟨cur, p, rfl, rfl, HP, HO, HOP, HPX, HB, hzr⟩ := hrel
    obtain ⟨hcl, hpl⟩ := HLN.out _ _ _ HP.out
    have x0 := HPX.out.1
    have x1 := HPX.out.2.1
    have x2 := HPX.out.2.2
    have HNM := hide (nm_any (w := wr) (c := cap) (d := d) hcl HY.out (by omega) (arow_owns hcl.symm HO.out) (HBR.out.below HB.out))
    obtain ⟨av, cv, hu⟩ := own_formM HOP.out
    subst hu
    have HSTx := hide (HST.out gk cur p)
    have HENx := hide fun (hm : Mx.nextM cur ws = none) => HEN.out gk cur p HP.out hm
    generalize Mx.nextM cur ws = NX at *
    go_wp2_with fail
    refine HNM.out.mono ?_
    rintro e w4 ⟨F, T, s, rfl, hs, hb4⟩
    have HSS := hide hs
    have bW := below_new w4 (.cells #[.int .i64 F, .int .i64 T] 41)
    have hb5 := hb4.trans (bW.mono hb4.size)
    have v0 : (w4.alloc (.cells #[.int .i64 F, .int .i64 T] 41)).cell? ⟨w4.heap.size, 0, none⟩ = some (.int .i64 F) := by simp
    have v1 : (w4.alloc (.cells #[.int .i64 F, .int .i64 T] 41)).cell? ⟨w4.heap.size, 1, none⟩ = some (.int .i64 T) := by simp
    have hz5 : (w4.alloc (.cells #[.int .i64 F, .int .i64 T] 41)).heap.size = w4.heap.size + 1 := World.size_alloc _ _
    obtain ⟨W5, hW5⟩ : ∃ W, W = w4.alloc (.cells #[.int .i64 F, .int .i64 T] 41) := ⟨_, rfl⟩
    rw [← hW5] at hb5 v0 v1 hz5
    have HW5 := hide hW5.symm
    obtain ⟨BM, hBM⟩ : ∃ B, B = w4.heap.size := ⟨_, rfl⟩
    rw [← hBM] at v0 v1
    have HBM := hide hBM.symm
    have HO5 := hide (g_own HO.out hb5)
    have HOP5 := hide (g_own HOP.out hb5)
    have HPX5 := hide (HPX.out.below hb5)
    have HB5 := hide (HB.out.trans (hb5.mono HB.out.size))
    have hz6 : wr.heap.size ≤ BM := by rw [hBM]; exact hb4.size
    have hz7 : BM < W5.heap.size := by omega
    clear hs hb4 bW hb5 hW5 hBM HNM x0 x1 hz5
    go_upto_region 6 with fail
    rw [HW5.out, HBM.out]
    clear HW5 HBM
    have x0 := HPX5.out.1
    have x1 := HPX5.out.2.1
    cases s
    · obtain rfl : NX = none := HSS.out
      have hpe := HENx.out rfl
      subst hpe
      have hlo : w.heap.size ≤ W3.heap.size := hz3
      have HFI2 := hide (owns_low HOP5.out hlo)
      go_wp2_with fail
      go_ret2
      exact ⟨_, rfl, HB5.out, HFI2.out⟩
    · obtain rfl : NX = some (F, T) := HSS.out
      obtain ⟨f, t, hnx, hgk, hpi⟩ := HSTx.out _ HP.out rfl
      have hme := hnx.e
      simp only [Prod.mk.injEq] at hme
      obtain ⟨rfl, rfl⟩ := hme
      have HPN := hide hpi
      have HMG := hide (mg_any (f := f) (t := t) hcl hnx.hf hnx.ht HO5.out)
      clear hnx hpi HSTx HENx HST HEN
      go_wp2_with fail
      refine HMG.out.mono ?_
      rintro e w6 ⟨rfl, own6, hg6⟩
      have HO6 := hide own6
      have hgBM : g < BM := by have := (HO.out.lt g rfl).2; omega
      have v0 := (World.cell?_of_block (w := W5) (a := ⟨BM, 0, none⟩) (hg6.block BM hz7 (by intro e; cases e; omega))).trans v0
      have v1 := (World.cell?_of_block (w := W5) (a := ⟨BM, 1, none⟩) (hg6.block BM hz7 (by intro e; cases e; omega))).trans v1
      have hgW : g < W3.heap.size := by have := HPB.out.2.2; omega
      have hCW := HPB.out.2.2
      have HOP6 := hide (kept_hi HOP5.out (Nat.le_refl _) hg6 hgW)
      have HPX6 := hide (pbox_hi HPX5.out hg6 (fun b e => by cases e; exact hgC))
      have HB6 := hide (HB5.out.trans (grown_under10 hg6 (fun b e => by cases e; exact hgw) HB5.out.size))
      have hz8 := hg6.size
      obtain ⟨v9, w9, hr9, own9, hg9⟩ := push_mv (x := (f : Int)) (y := (t : Int)) HOP6.out (by omega) (by omega)
      rw [← mce_snoc p ((f : Int), (t : Int))] at own9
      have HOP9 := hide own9
      have HO9 := hide (kept_lo HO6.out HOP6.out (Nat.le_refl _) hg9 hgW)
      have HPX9 := hide (pbox_hi HPX6.out hg9 (fun b e => by have := (HOP6.out.lt b e).1; omega))
      have HB9 := hide (HB6.out.trans (grown_under10 hg9 (fun b e => by have := (HOP6.out.lt b e).1; omega) HB6.out.size))
      have hz9 := hg9.size
      clear own6 hg6 own9 hg9 HMG HOP6 HO6 HPX6 HB6
      go_wp2_with (first | (at_builtin; refine Lib.wpList_append_run _ rfl _ _ _ _ rfl _ _ rfl rfl _ _ (hr9 _) ?_))
      go_roundg (gk - 1)
      case measure => omega
      case rel => exact ⟨_, p ++ [((f : Int), (t : Int))], rfl, rfl, HPN, HO9, by rw [List.length_append]; exact HOP9, HPX9, HB9, by omega⟩
theorem pm_o {a b : Option Addr} {n m c d : Nat} {xs ws : List Int} {w : World} (hx : xs.length = n) (hy : ws.length = m) (hc : n ≤ c) (hd : m ≤ d) (ha : ARow w a xs) (hb : ARow w b ws) :
    Calls Try.prog 35 #[.slice a n c, .slice b m d] w fun e w' => ∃ v, e = .returned (.tuple #[v, .bool (Mx.sameB xs ws)]) ∧ Below w.heap.size w w' ∧ w'.ownsRow w.heap.size 41 2 v (Mx.pmL xs ws).length (mce (Mx.pmL xs ws)) := by
  cases hg : Mx.sameB xs ws
  · have e1 : Mx.pmL xs ws = [] := by unfold Mx.pmL; rw [hg]; rfl
    rw [e1]
    exact (pm_no (hide hx) (hide hy) hc hd (hide ha) (hide hb) (hide hg)).mono fun _ _ ⟨he, hw⟩ => ⟨_, he, hw, World.ownsRow_nil _ _ _ _⟩
  · have e1 : Mx.pmL xs ws = Mx.plan 20 xs ws := by unfold Mx.pmL; rw [hg]; rfl
    rw [e1]
    obtain ⟨e2, _⟩ := Mx.same_two hg hx
    obtain rfl : n = m := by omega
    exact pm_yes (hide hx) (hide hy) hc hd (hide ha) (hide hb) (hide hg)
theorem pm_w {a b : Option Addr} {n m c d : Nat} {xs ws : List Int} {w : World} (hx : xs.length = n) (hy : ws.length = m) (hc : n ≤ c) (hd : m ≤ d) (ha : ARow w a xs) (hb : ARow w b ws) :
    Calls Try.prog 35 #[.slice a n c, .slice b m d] w fun e w' => ∃ v, e = .returned (.tuple #[v, .bool (Mx.sameB xs ws)]) ∧ Below w.heap.size w w' ∧ MO w' w.heap.size w'.heap.size v (Mx.pmL xs ws).length (Mx.pmL xs ws) :=
  (pm_o hx hy hc hd ha hb).mono fun _ _ ⟨v, he, hw, ho⟩ => ⟨v, he, hw, mo_own rfl ho⟩
end Go.Proofs.Ytnjkdfeajlnojaa
namespace Go.Proofs.Ytnjkdfeajlnojaa
open Go.RowKit

set_option maxHeartbeats 1000000 in
theorem cf_no {w : World} {lo : Nat} {E : Nat → Prop} {B : Nat} {x : Jb.J} (h : JB w lo E B x) (hM : ¬ x.M.length < 60) :
    Calls Try.prog 90 #[.pointer (some ⟨B, 0, none⟩)] w fun e w' => GaveUp e ∧ w' = w := by
  obtain ⟨a, b, l, m, h⟩ := h
  obtain ⟨am, cm, rfl⟩ := own_formM h.om
  obtain ⟨c0, c1, c2, c3, c4⟩ := h.jw.cells
  have hd : decide ((x.M.length : Int) < 60) = false := decide_eq_false (by omega)
  clear h c0 c1 c2 c4
  go_enter Try.func90, Try.ntmps90
  go_wp2_with fail
  refine (gu_no _).mono ?_
  rintro _ _ ⟨⟨u, pv, rfl⟩, rfl⟩
  exact ⟨rfl, ⟨u, pv, rfl⟩, rfl⟩
theorem mth_1 (w : World) : (method 248 105 (.agg #[]) "loop.example/g00451/impl.needsMove").run Try.prog w = .ok (131, .agg #[]) w := by kernel_rfl
theorem mth_2 (w : World) : (method 248 106 (.agg #[]) "loop.example/g00451/impl.needsMove").run Try.prog w = .ok (132, .agg #[]) w := by kernel_rfl
theorem mth_3 (w : World) : (method 248 107 (.agg #[]) "loop.example/g00451/impl.needsMove").run Try.prog w = .ok (133, .agg #[]) w := by kernel_rfl
theorem mth_4 (w : World) : (method 248 108 (.agg #[]) "loop.example/g00451/impl.needsMove").run Try.prog w = .ok (134, .agg #[]) w := by kernel_rfl
theorem tas_11 (w : World) : (Instr.typeAssert (.iface 105 (.agg #[])) 94 105 true).run Try.prog w = .ok (.tuple #[.agg #[], .bool true]) w := by kernel_rfl
theorem tas_21 (w : World) : (Instr.typeAssert (.iface 106 (.agg #[])) 94 105 true).run Try.prog w = .ok (.tuple #[.agg #[], .bool false]) w := by kernel_rfl
theorem tas_22 (w : World) : (Instr.typeAssert (.iface 106 (.agg #[])) 94 106 true).run Try.prog w = .ok (.tuple #[.agg #[], .bool true]) w := by kernel_rfl
theorem tas_31 (w : World) : (Instr.typeAssert (.iface 107 (.agg #[])) 94 105 true).run Try.prog w = .ok (.tuple #[.agg #[], .bool false]) w := by kernel_rfl
theorem tas_32 (w : World) : (Instr.typeAssert (.iface 107 (.agg #[])) 94 106 true).run Try.prog w = .ok (.tuple #[.agg #[], .bool false]) w := by kernel_rfl
theorem tas_33 (w : World) : (Instr.typeAssert (.iface 107 (.agg #[])) 94 107 true).run Try.prog w = .ok (.tuple #[.agg #[], .bool true]) w := by kernel_rfl
theorem tas_41 (w : World) : (Instr.typeAssert (.iface 108 (.agg #[])) 94 105 true).run Try.prog w = .ok (.tuple #[.agg #[], .bool false]) w := by kernel_rfl
theorem tas_42 (w : World) : (Instr.typeAssert (.iface 108 (.agg #[])) 94 106 true).run Try.prog w = .ok (.tuple #[.agg #[], .bool false]) w := by kernel_rfl
theorem tas_43 (w : World) : (Instr.typeAssert (.iface 108 (.agg #[])) 94 107 true).run Try.prog w = .ok (.tuple #[.agg #[], .bool false]) w := by kernel_rfl
theorem tas_44 (w : World) : (Instr.typeAssert (.iface 108 (.agg #[])) 94 108 true).run Try.prog w = .ok (.tuple #[.agg #[], .bool true]) w := by kernel_rfl
/-- What carrying out an order leaves: it was done, or given up. -/
def Done (lo : Nat) (E : Nat → Prop) (B : Nat) (x : Jb.J) (o : Int) (w : World) (e : Ending) (w' : World) : Prop := Fr lo E w w' ∧ ((∃ k, Jb.doJ x o = some k ∧ e = .returned (.tuple #[]) ∧ JB w' lo E B k) ∨ (Jb.doJ x o = none ∧ GaveUp e ∧ JB w' lo E B x))
theorem JB.elt {w : World} {lo : Nat} {E : Nat → Prop} {B : Nat} {x : Jb.J} (h : JB w lo E B x) : ∀ k, E k → k < w.heap.size := by
  obtain ⟨a, b, l, m, h⟩ := h
  exact h.elt
theorem JB.low {w : World} {lo : Nat} {E : Nat → Prop} {B : Nat} {x : Jb.J} (h : JB w lo E B x) : lo ≤ w.heap.size := Nat.le_trans h.lt.1 (Nat.le_of_lt h.lt.2)
theorem JB.cells {w : World} {lo : Nat} {E : Nat → Prop} {B : Nat} {x : Jb.J} (h : JB w lo E B x) : ∃ c, (∃ a, w.cell? ⟨B, 2, none⟩ = some (.slice a x.L.length c)) ∧ w.frozen? ⟨B, 2, none⟩ = false := by
  obtain ⟨a, b, l, m, h⟩ := h
  obtain ⟨a', c, e, _⟩ := h.ol.2.2
  exact ⟨c, ⟨a', by rw [← e]; exact h.jw.cells.2.2.1⟩, h.jw.fz 2⟩
set_option maxHeartbeats 1000000 in
theorem co_4 {w : World} {lo : Nat} {E : Nat → Prop} {B : Nat} {x : Jb.J} (h : JB w lo E B x) :
    Calls Try.prog 75 #[.pointer (some ⟨B, 0, none⟩), .iface 108 (.agg #[])] w fun e w' => Done lo E B x 4 w e w' := by
  have hlow := h.low
  have HJ := hide h
  clear h
  have hm := mth_4
  have ht0 := tas_41
  have ht1 := tas_42
  have ht2 := tas_43
  have ht3 := tas_44
  go_enter Try.func75, Try.ntmps75
  go_wp2_with fail
  refine (nm_4 _).mono ?_
  rintro _ w1 ⟨rfl, hb1⟩
  obtain ⟨a, b, l, m, h1⟩ := HJ.out.below hb1
  have HB := hide (Fr.of hb1 hlow HJ.out.elt)
  have c2 := h1.jw.cells.2.2.1
  have z2 := h1.jw.fz 2
  have HF := hide h1.empty
  have HL := hide h1.lob
  have HEB := hide h1.eB
  clear hb1 h1
  go_wp2_with fail
  refine (gu_yes _).mono ?_
  rintro _ _ ⟨rfl, rfl⟩
  go_wp2_with fail
  go_end0
  exact ⟨HB.out.trans (below_set16 HL.out HEB.out), Or.inl ⟨_, rfl, rfl, ⟨_, _, _, _, HF.out⟩⟩⟩
set_option maxHeartbeats 1000000 in
theorem co_2 {w : World} {lo : Nat} {E : Nat → Prop} {B : Nat} {x : Jb.J} (h : JB w lo E B x) (hf : Jb.Fit x) :
    Calls Try.prog 75 #[.pointer (some ⟨B, 0, none⟩), .iface 106 (.agg #[])] w fun e w' => Done lo E B x 2 w e w' := by
  have hlow := h.low
  have HJ := hide h
  have HFT := hide hf
  clear h hf
  have hm := mth_2
  have ht0 := tas_21
  have ht1 := tas_22
  go_enter Try.func75, Try.ntmps75
  go_wp2_with fail
  refine (nm_2 _).mono ?_
  rintro _ w1 ⟨rfl, hb1⟩
  have h1 := HJ.out.below hb1
  obtain ⟨c, ⟨a, c2⟩, z2⟩ := h1.cells
  have HB := hide (Fr.of hb1 hlow HJ.out.elt)
  have HJ1 := hide h1
  clear hb1 h1 HJ
  cases hL : x.L with
  | nil =>
    have hl0 : x.L.length = 0 := by rw [hL]; rfl
    have hdo : Jb.doJ x 2 = none := by simp [Jb.doJ, hL]
    rw [hl0] at c2
    go_wp2_with fail
    refine (gu_no _).mono ?_
    rintro _ _ ⟨⟨u, pv, rfl⟩, rfl⟩
    exact ⟨rfl, HB.out, Or.inr ⟨hdo, ⟨u, pv, rfl⟩, HJ1.out⟩⟩
  | cons q r =>
    have hl0 : x.L.length = r.length + 1 := by rw [hL]; rfl
    rw [hl0] at c2
    have hp : (0 : Int) < (r.length : Int) + 1 := by omega
    have hd : decide ((0 : Int) < (r.length : Int) + 1) = true := decide_eq_true hp
    have hdo1 : x.f < 60 → Jb.doJ x 2 = some { x with L := [], f := x.f + 1 } := fun h => by simp [Jb.doJ, hL, h]
    have hdo2 : ¬ x.f < 60 → Jb.doJ x 2 = none := fun h => by simp [Jb.doJ, h]
    go_wp2_with fail
    refine (gu_yes _).mono ?_
    rintro _ w2 ⟨rfl, rfl⟩
    go_wp2_with fail
    refine (fl_any HJ1.out HFT.out).mono ?_
    rintro e w3 (⟨hx, rfl, h3, h4⟩ | ⟨hx, ⟨u, pv, rfl⟩, rfl⟩)
    · have H3 := hide h3
      have H4 := hide (HB.out.trans h4)
      clear h3 h4
      go_wp2_with fail
      go_end0
      exact ⟨H4.out, Or.inl ⟨_, hdo1 (by omega), rfl, H3.out⟩⟩
    · exact ⟨rfl, HB.out, Or.inr ⟨hdo2 (by omega), ⟨u, pv, rfl⟩, HJ1.out⟩⟩
set_option maxHeartbeats 1000000 in
theorem co_1 {w : World} {lo : Nat} {E : Nat → Prop} {B : Nat} {x : Jb.J} (h : JB w lo E B x) (hf : Jb.Fit x) :
    Calls Try.prog 75 #[.pointer (some ⟨B, 0, none⟩), .iface 105 (.agg #[])] w fun e w' => Done lo E B x 1 w e w' := by
  have hlow := h.low
  have HJ := hide h
  have HFT := hide hf
  clear h hf
  have hm := mth_1
  have ht0 := tas_11
  go_enter Try.func75, Try.ntmps75
  go_wp2_with fail
  refine (nm_1 _).mono ?_
  rintro _ w1 ⟨rfl, hb1⟩
  have h1 := HJ.out.below hb1
  obtain ⟨c, ⟨a, c2⟩, z2⟩ := h1.cells
  have HB := hide (Fr.of hb1 hlow HJ.out.elt)
  have HJ1 := hide h1
  clear hb1 h1 HJ
  cases hL : x.L with
  | nil =>
    have hl0 : x.L.length = 0 := by rw [hL]; rfl
    have hdo : Jb.doJ x 1 = none := by simp [Jb.doJ, hL]
    rw [hl0] at c2
    go_wp2_with fail
    refine (gu_no _).mono ?_
    rintro _ _ ⟨⟨u, pv, rfl⟩, rfl⟩
    exact ⟨rfl, HB.out, Or.inr ⟨hdo, ⟨u, pv, rfl⟩, HJ1.out⟩⟩
  | cons q r =>
    have hl0 : x.L.length = r.length + 1 := by rw [hL]; rfl
    rw [hl0] at c2
    have hp : (0 : Int) < (r.length : Int) + 1 := by omega
    have hd : decide ((0 : Int) < (r.length : Int) + 1) = true := decide_eq_true hp
    have hdo1 : x.M.length < 60 → Jb.doJ x 1 = some { x with xs := Mx.mv x.xs q, L := r, M := x.M ++ [q] } := fun h => by simp [Jb.doJ, hL, h]
    have hdo2 : ¬ x.M.length < 60 → Jb.doJ x 1 = none := fun h => by simp [Jb.doJ, hL, h]
    go_wp2_with fail
    refine (gu_yes _).mono ?_
    rintro _ w2 ⟨rfl, rfl⟩
    go_wp2_with fail
    by_cases hx : x.M.length < 60
    · refine (cf_yes HJ1.out HFT.out hL hx).mono ?_
      rintro e w3 ⟨rfl, h3, h4⟩
      have H3 := hide h3
      have H4 := hide (HB.out.trans h4)
      have HX := hide (hdo1 hx)
      clear h3 h4 hx hdo1 hdo2
      go_wp2_with fail
      go_end0
      exact ⟨H4.out, Or.inl ⟨_, HX.out, rfl, H3.out⟩⟩
    · refine (cf_no HJ1.out hx).mono ?_
      rintro e w3 ⟨⟨u, pv, rfl⟩, rfl⟩
      exact ⟨rfl, HB.out, Or.inr ⟨hdo2 hx, ⟨u, pv, rfl⟩, HJ1.out⟩⟩
set_option maxHeartbeats 2000000 in
theorem co_3 {w : World} {lo : Nat} {E : Nat → Prop} {B : Nat} {x : Jb.J} (h : JB w lo E B x) :
    Calls Try.prog 75 #[.pointer (some ⟨B, 0, none⟩), .iface 107 (.agg #[])] w fun e w' => Done lo E B x 3 w e w' := by
  have hlow := h.low
  have HJ := hide h
  clear h
  have hm := mth_3
  have ht0 := tas_31
  have ht1 := tas_32
  have ht2 := tas_33
  go_enter Try.func75, Try.ntmps75
  go_wp2_with fail
  refine (nm_3 _).mono ?_
  rintro _ w1 ⟨rfl, hb1⟩
  obtain ⟨a, b, l, m, h1⟩ := HJ.out.below hb1
  have HB := hide (Fr.of hb1 hlow HJ.out.elt)
  obtain ⟨aa, ca, rfl, hca, ra⟩ := own_form3 rfl h1.oa
  obtain ⟨ab, cb, rfl, hcb, rb⟩ := own_form3 rfl h1.ob
  have hbd : Below w1.heap.size w1 w1.drew := (Below.refl _ _).drew
  have hS : w1.drew.cell? ⟨B, 0, none⟩ = some (.slice aa x.xs.length ca) ∧ w1.drew.cell? ⟨B, 1, none⟩ = some (.slice ab x.ws.length cb) := ⟨h1.jw.cells.1, h1.jw.cells.2.1⟩
  have HPM := hide (pm_o (w := w1.drew) rfl rfl hca hcb (ra.below hbd) (rb.below hbd))
  have HAFT : Hid (∀ (w5 : World) (v : Value), Below w1.drew.heap.size w1.drew w5 → w5.ownsRow w1.drew.heap.size 41 2 v (Mx.pmL x.xs x.ws).length (mce (Mx.pmL x.xs x.ws)) →
      (w5.cell? ⟨B, 0, none⟩ = some (.slice aa x.xs.length ca) ∧ w5.cell? ⟨B, 1, none⟩ = some (.slice ab x.ws.length cb)) ∧ ((w5.setCell ⟨B, 2, none⟩ v).cell? ⟨B, 0, none⟩ = some (.slice aa x.xs.length ca) ∧ (w5.setCell ⟨B, 2, none⟩ v).cell? ⟨B, 1, none⟩ = some (.slice ab x.ws.length cb)) ∧ w5.cell? ⟨B, 2, none⟩ = some l ∧ w5.frozen? ⟨B, 2, none⟩ = false ∧ (∃ av cv, v = .slice av (Mx.pmL x.xs x.ws).length cv) ∧
      JB (w5.setCell ⟨B, 2, none⟩ v) lo E B { x with L := Mx.pmL x.xs x.ws } ∧ Fr lo E w1 (w5.setCell ⟨B, 2, none⟩ v)) := hide fun w5 v hb5 ho => by
    have hb : Below w1.heap.size w1 w5 := hbd.trans hb5
    have h5 := h1.below hb
    have hlt : ∀ g, v.ownBlock = some g → w1.heap.size ≤ g := fun g e => (ho.lt g e).1
    have hlb : ∀ g, moB v (Mx.pmL x.xs x.ws).length = some g → w1.heap.size ≤ g := fun g e => by
      unfold moB at e
      split at e
      · cases e
      · exact hlt g e
    have hlo1 : lo ≤ w1.heap.size := Nat.le_trans h1.lob (Nat.le_of_lt h1.jw.lt)
    obtain ⟨av, cv, hv, hcv⟩ : ∃ av cv, v = .slice av (Mx.pmL x.xs x.ws).length cv ∧ (Mx.pmL x.xs x.ws).length ≤ cv := by
      rcases ho.2 with ⟨rfl, h0⟩ | ⟨g, cap, cur, rfl, _, _, hnc, _⟩
      · exact ⟨_, _, by rw [h0], by omega⟩
      · exact ⟨_, _, rfl, hnc⟩
    refine ⟨⟨h5.jw.cells.1, h5.jw.cells.2.1⟩, ⟨(h5.jw.set2 v).cells.1, (h5.jw.set2 v).cells.2.1⟩, h5.jw.cells.2.2.1, h5.jw.fz 2, ⟨av, cv, hv⟩, ⟨_, _, _, _, h5.left (l' := v) (L' := Mx.pmL x.xs x.ws) ⟨(mo_own rfl ho).mv, fun g e => Nat.le_trans hlo1 (hlb g e), av, cv, hv, hcv⟩ (fun e => ?_) (fun g e e' => ?_) (fun g e e' => ?_) (fun g e e' => ?_) (fun g e hE => ?_)⟩, (Fr.of hb hlo1 h1.elt).trans (below_set16 h1.lob h1.eB)⟩
    · have := hlb B e; have := h1.jw.lt; omega
    · have := hlb g e'; have := (h1.oa.lt g e).2; omega
    · have := hlb g e'; have := (h1.ob.lt g e).2; omega
    · have := hlb g e; have := (h1.om.lt g e').2; omega
    · have := hlb g e; have := h1.elt g hE; omega
  clear hb1 h1 ra rb hbd
  go_wp2_with fail
  refine (gu_yes _).mono ?_
  rintro _ _ ⟨rfl, rfl⟩
  go_upto_region 7 with fail
  go_region_held3 (fun w' => w'.cell? ⟨B, 0, none⟩ = some (.slice aa x.xs.length ca) ∧ w'.cell? ⟨B, 1, none⟩ = some (.slice ab x.ws.length cb))
    (first | exact hS | exact hS5 | exact hS6 | assumption | fail)
    (first
    | (go_at_call 35; refine HPM.out.mono ?_; rintro e w5 ⟨v, rfl, hb5, ho⟩; obtain ⟨hS5, hS6, c2, z2, ⟨av, cv, rfl⟩, hj6, hb6⟩ := HAFT.out w5 v hb5 ho; have HF := hide hj6; have HB6 := hide (HB.out.trans hb6); clear hb5 ho hj6 hb6)
    | fail)
  go_end0
  exact ⟨HB6.out, Or.inl ⟨_, rfl, rfl, HF.out⟩⟩
end Go.Proofs.Ytnjkdfeajlnojaa
namespace Go.Proofs.Ytnjkdfeajlnojaa
open Go.RowKit

theorem JP.weak {w : World} {lo : Nat} {E F : Nat → Prop} {B : Nat} {a b l m : Value} {x : Jb.J} (h : JP w lo F B a b l m x) (hE : ∀ k, E k → F k) : JP w lo E B a b l m x :=
  { h with elt := fun k hk => h.elt k (hE k hk), eB := fun hk => h.eB (hE _ hk), ea := fun g e hk => h.ea g e (hE _ hk), eb := fun g e hk => h.eb g e (hE _ hk), el := fun g e hk => h.el g e (hE _ hk), em := fun g e hk => h.em g e (hE _ hk) }
/-- A block that the job does not reach is written. -/
theorem JP.other {w : World} {lo : Nat} {E : Nat → Prop} {B D k : Nat} {a b l m u : Value} {x : Jb.J} (h : JP w lo E B a b l m x) (hD : E D) : JP (w.setCell ⟨D, k, none⟩ u) lo E B a b l m x :=
  { h with elt := fun j hj => by simpa using h.elt j hj, jw := h.jw.other (fun e => h.eB (e ▸ hD)) u, oa := own_set16 h.oa fun e => h.ea D e hD, ob := own_set16 h.ob fun e => h.eb D e hD, ol := lv_set16 h.ol fun e => h.el D e hD, om := own_set16 h.om fun e => h.em D e hD }
theorem JB.weak {w : World} {lo : Nat} {E F : Nat → Prop} {B : Nat} {x : Jb.J} (h : JB w lo F B x) (hE : ∀ k, E k → F k) : JB w lo E B x := by
  obtain ⟨a, b, l, m, h⟩ := h
  exact ⟨a, b, l, m, h.weak hE⟩
theorem JB.other {w : World} {lo : Nat} {E : Nat → Prop} {B D k : Nat} {u : Value} {x : Jb.J} (h : JB w lo E B x) (hD : E D) : JB (w.setCell ⟨D, k, none⟩ u) lo E B x := by
  obtain ⟨a, b, l, m, h⟩ := h
  exact ⟨a, b, l, m, h.other hD⟩
/-- A new block is kept, too. -/
theorem JP.more {w : World} {lo : Nat} {E : Nat → Prop} {B : Nat} {a b l m : Value} {x : Jb.J} (h : JP w lo E B a b l m x) (o : Obj) : JP (w.alloc o) lo (fun k => E k ∨ k = w.heap.size) B a b l m x := by
  have h1 := h.below (below_new w o)
  have hs : (w.alloc o).heap.size = w.heap.size + 1 := World.size_alloc _ _
  refine { h1 with elt := fun k hk => ?_, eB := fun hk => ?_, ea := fun g e hk => ?_, eb := fun g e hk => ?_, el := fun g e hk => ?_, em := fun g e hk => ?_ }
  · rcases hk with hk | rfl
    · exact h1.elt k hk
    · omega
  · rcases hk with hk | hk
    · exact h.eB hk
    · have := h.jw.lt; omega
  · rcases hk with hk | hk
    · exact h.ea g e hk
    · have := (h.oa.lt g e).2; omega
  · rcases hk with hk | hk
    · exact h.eb g e hk
    · have := (h.ob.lt g e).2; omega
  · rcases hk with hk | hk
    · exact h.el g e hk
    · have := h.llt g e; omega
  · rcases hk with hk | hk
    · exact h.em g e hk
    · have := (h.om.lt g e).2; omega
theorem JB.more {w : World} {lo : Nat} {E : Nat → Prop} {B : Nat} {x : Jb.J} (h : JB w lo E B x) (o : Obj) : JB (w.alloc o) lo (fun k => E k ∨ k = w.heap.size) B x := by
  obtain ⟨a, b, l, m, h⟩ := h
  exact ⟨a, b, l, m, h.more o⟩
theorem cat_no (p : Addr) (x : Bool) (u : TypeId) (pv : Value) (older : List PanicEntry) (w : World) (hc : w.cell? p = some (.bool x)) (hz : w.frozen? p = false) :
    CallsD Try.prog 74 #[.pointer (some p)] (.panicking ({ v := .iface u pv, recovered := false } :: older)) w fun e u' w' =>
      e = .returned (.tuple #[]) ∧ u' = .panicking ({ v := .iface u pv, recovered := true } :: older) ∧ w' = w.setCell p (.bool false) := by
  refine callsD_of_wpS Try.func74 rfl fun c₀ cs hu => ?_
  apply wpS_region
  simp [wpOpsS, go_sem, recoverD, hu, Try.ntmps74, hc, hz, bodyPostS, results, Try.results74]
theorem cat_yes (p : Addr) (x : Bool) (w : World) (hc : w.cell? p = some (.bool x)) (hz : w.frozen? p = false) :
    CallsD Try.prog 74 #[.pointer (some p)] .returning w fun e u' w' => e = .returned (.tuple #[]) ∧ u' = .returning ∧ w' = w.setCell p (.bool true) := by
  refine callsD_of_wpS Try.func74 rfl fun c₀ cs hu => ?_
  apply wpS_region
  simp [wpOpsS, go_sem, recoverD, hu, Try.ntmps74, hc, hz, bodyPostS, results, Try.results74]
  cases c₀
  simp_all
set_option maxHeartbeats 2000000 in
theorem try_of {w : World} {lo : Nat} {E : Nat → Prop} {B : Nat} {o : Int} {v : Value} {x : Jb.J} (h : JB w lo E B x)
    (hoo : ∀ W, Calls Try.prog 76 #[.int .i64 o] W fun e w' => e = .returned v ∧ w' = W) (hco : ∀ W F, JB W lo F B x → Calls Try.prog 75 #[.pointer (some ⟨B, 0, none⟩), v] W fun e w' => Done lo F B x o W e w') :
    Calls Try.prog 55 #[.pointer (some ⟨B, 0, none⟩), .int .i64 o] w fun e w' => e = .returned (.bool (Jb.doJ x o).isSome) ∧ JB w' lo E B (Jb.oneJ x o) ∧ Fr lo E w w' := by
  have hmf : ∀ (fn : Fn) (first cap : Array Value) (w : World), (Instr.makeFunc fn first cap).run Try.prog w = .ok (.func fn first cap) w := fun _ _ _ _ => rfl
  have h1 := h.more (.cells #[.bool false] 4)
  have hc1 : (w.alloc (.cells #[.bool false] 4)).cell? ⟨w.heap.size, 0, none⟩ = some (.bool false) := by simp
  have hz1 : (w.alloc (.cells #[.bool false] 4)).frozen? ⟨w.heap.size, 0, none⟩ = false := by simp
  have hb1 := Fr.of (E := E) (below_new w (.cells #[.bool false] 4)) h.low h.elt
  have HO := hide hoo
  have HCO := hide (hco _ _ h1)
  have HFIN : Hid (∀ w2, Fr lo (fun k => E k ∨ k = w.heap.size) (w.alloc (.cells #[.bool false] 4)) w2 → w2.cell? ⟨w.heap.size, 0, none⟩ = some (.bool false) ∧ w2.frozen? ⟨w.heap.size, 0, none⟩ = false ∧ ∀ (t : Bool) (y : Jb.J), JB w2 lo (fun k => E k ∨ k = w.heap.size) B y → JB (w2.setCell ⟨w.heap.size, 0, none⟩ (.bool t)) lo E B y ∧ Fr lo E w (w2.setCell ⟨w.heap.size, 0, none⟩ (.bool t)) ∧ (w2.setCell ⟨w.heap.size, 0, none⟩ (.bool t)).cell? ⟨w.heap.size, 0, none⟩ = some (.bool t)) := hide fun w2 hf => by
    have hk := hf.2 w.heap.size (Or.inr rfl)
    have hc2 := (World.cell?_of_block (a := ⟨w.heap.size, 0, none⟩) hk).trans hc1
    refine ⟨hc2, (World.frozen?_of_block (a := ⟨w.heap.size, 0, none⟩) hk).trans hz1, fun t y hy => ⟨(hy.other (Or.inr rfl)).weak fun k hk => Or.inl hk, (hb1.trans ⟨hf.1, fun k hk => hf.2 k (Or.inl hk)⟩).trans (below_set16 h.low fun hk => absurd (h.elt _ hk) (Nat.lt_irrefl _)), World.cell?_setCell_same _ _ _ hc2⟩⟩
  clear h h1 hc1 hz1 hb1 hoo hco
  go_enter_defers Try.func55, Try.ntmps55
  go_wp2_with fail
  refine (HO.out _).mono ?_
  rintro _ _ ⟨rfl, rfl⟩
  go_wp2_with fail
  refine HCO.out.mono ?_
  rintro e w2 ⟨hf, hd⟩
  obtain ⟨c2, z2, hfin⟩ := HFIN.out w2 hf
  rcases hd with ⟨k, hk, rfl, hj⟩ | ⟨hk, ⟨u, pv, rfl⟩, hj⟩
  · obtain ⟨f1, f2, f3⟩ := hfin true k hj
    go_wp2_with fail
    refine leaves_cons (f := 74) (args := #[.pointer (some ⟨w.heap.size, 0, none⟩)]) (by simp) (by simp [go_sem]) ?_
    refine (cat_yes ⟨w.heap.size, 0, none⟩ false _ c2 z2).mono ?_
    rintro e u' w'' ⟨rfl, rfl, rfl⟩
    simp [Leaves, settle, results, Try.results55, go_sem]
    exact ⟨.bool true, by simp [f3], by rw [hk]; rfl, by unfold Jb.oneJ; rw [hk]; exact f1, f2⟩
  · obtain ⟨f1, f2, f3⟩ := hfin false x hj
    refine leaves_cons (f := 74) (args := #[.pointer (some ⟨w.heap.size, 0, none⟩)]) (by simp) (by simp [go_sem]) ?_
    refine (cat_no ⟨w.heap.size, 0, none⟩ false u pv [] _ c2 z2).mono ?_
    rintro e u' w'' ⟨rfl, rfl, rfl⟩
    simp [Leaves, settle, results, Try.results55, go_sem]
    exact ⟨.bool false, by simp [f3], by rw [hk]; rfl, by unfold Jb.oneJ; rw [hk]; exact f1, f2⟩
set_option maxHeartbeats 2000000 in
theorem try_no {w : World} {lo : Nat} {E : Nat → Prop} {B : Nat} {o : Int} {x : Jb.J} (h : JB w lo E B x) (hoo : ∀ W, Calls Try.prog 76 #[.int .i64 o] W fun e w' => GaveUp e ∧ w' = W) (hk : Jb.doJ x o = none) :
    Calls Try.prog 55 #[.pointer (some ⟨B, 0, none⟩), .int .i64 o] w fun e w' => e = .returned (.bool (Jb.doJ x o).isSome) ∧ JB w' lo E B (Jb.oneJ x o) ∧ Fr lo E w w' := by
  have hmf : ∀ (fn : Fn) (first cap : Array Value) (w : World), (Instr.makeFunc fn first cap).run Try.prog w = .ok (.func fn first cap) w := fun _ _ _ _ => rfl
  have hc1 : (w.alloc (.cells #[.bool false] 4)).cell? ⟨w.heap.size, 0, none⟩ = some (.bool false) := by simp
  have hz1 : (w.alloc (.cells #[.bool false] 4)).frozen? ⟨w.heap.size, 0, none⟩ = false := by simp
  have hb1 := Fr.of (E := E) (below_new w (.cells #[.bool false] 4)) h.low h.elt
  have f1 := h.below (below_new w (.cells #[.bool false] 4))
  have HF := hide (⟨f1, hb1⟩ : _ ∧ _)
  have HO := hide hoo
  clear h f1 hb1 hoo
  go_enter_defers Try.func55, Try.ntmps55
  go_wp2_with fail
  refine (HO.out _).mono ?_
  rintro _ _ ⟨⟨u, pv, rfl⟩, rfl⟩
  refine leaves_cons (f := 74) (args := #[.pointer (some ⟨w.heap.size, 0, none⟩)]) (by simp) (by simp [go_sem]) ?_
  refine (cat_no ⟨w.heap.size, 0, none⟩ false u pv [] _ hc1 hz1).mono ?_
  rintro e u' w'' ⟨rfl, rfl, rfl⟩
  simp [Leaves, settle, results, Try.results55, go_sem]
  exact ⟨by simp [hk], by unfold Jb.oneJ; rw [hk]; exact HF.out.1, HF.out.2⟩
theorem do_other {x : Jb.J} {o : Int} (h1 : ¬ o = 1) (h2 : ¬ o = 2) (h3 : ¬ o = 3) (h4 : ¬ o = 4) : Jb.doJ x o = none := by unfold Jb.doJ; rw [if_neg h1, if_neg h2, if_neg h3, if_neg h4]
theorem try_any {w : World} {lo : Nat} {E : Nat → Prop} {B : Nat} {o : Int} {x : Jb.J} (h : JB w lo E B x) (hf : Jb.Fit x) :
    Calls Try.prog 55 #[.pointer (some ⟨B, 0, none⟩), .int .i64 o] w fun e w' => e = .returned (.bool (Jb.doJ x o).isSome) ∧ JB w' lo E B (Jb.oneJ x o) ∧ Fr lo E w w' := by
  by_cases h1 : o = 1
  · subst h1; exact try_of h oo_1 fun W F hj => co_1 hj hf
  by_cases h2 : o = 2
  · subst h2; exact try_of h oo_2 fun W F hj => co_2 hj hf
  by_cases h3 : o = 3
  · subst h3; exact try_of h oo_3 fun W F hj => co_3 hj
  by_cases h4 : o = 4
  · subst h4; exact try_of h oo_4 fun W F hj => co_4 hj
  exact try_no h (fun W => oo_no o W h1 h2 h3 h4) (do_other h1 h2 h3 h4)
end Go.Proofs.Ytnjkdfeajlnojaa
namespace Go.Proofs.Ytnjkdfeajlnojaa
open Go.RowKit

/-- A job's lists, all of one's own. -/
structure JV (w : World) (lo : Nat) (a b l m : Value) (x : Jb.J) : Prop where
  oa : w.ownsRow lo 3 1 a x.xs.length (ints x.xs)
  ob : w.ownsRow lo 3 1 b x.ws.length (ints x.ws)
  ol : w.ownsRow lo 41 2 l x.L.length (mce x.L)
  om : w.ownsRow lo 41 2 m x.M.length (mce x.M)
  ab : Dis a.ownBlock b.ownBlock
  al : Dis a.ownBlock l.ownBlock
  am : Dis a.ownBlock m.ownBlock
  bl : Dis b.ownBlock l.ownBlock
  bm : Dis b.ownBlock m.ownBlock
  lm : Dis l.ownBlock m.ownBlock
theorem JV.below {w w' : World} {lo : Nat} {a b l m : Value} {x : Jb.J} (h : JV w lo a b l m x) (hb : Below w.heap.size w w') : JV w' lo a b l m x :=
  { h with oa := own_b16 h.oa hb, ob := own_b16 h.ob hb, ol := own_b16 h.ol hb, om := own_b16 h.om hb }
theorem moB_own {v : Value} {n g : Nat} (h : moB v n = some g) : v.ownBlock = some g := by
  unfold moB at h
  split at h
  · cases h
  · exact h
theorem lv_own {w : World} {lo : Nat} {l : Value} {L : List (Int × Int)} (h : w.ownsRow lo 41 2 l L.length (mce L)) : LV w lo l L := by
  refine ⟨(mo_own rfl h).mv, fun g e => (h.lt g (moB_own e)).1, ?_⟩
  rcases h.2 with ⟨rfl, h0⟩ | ⟨g, cap, cur, rfl, _, _, hnc, _⟩
  · exact ⟨_, _, by rw [h0], by omega⟩
  · exact ⟨_, _, rfl, hnc⟩
/-- They are put into a variable. -/
theorem JV.box {w : World} {lo : Nat} {E : Nat → Prop} {a b l m : Value} {x : Jb.J} (h : JV w lo a b l m x) (hl : lo ≤ w.heap.size) (he : ∀ k, E k → k < lo) :
    JP (w.alloc (.cells #[a, b, l, m, .int .i64 x.f] 25)) lo E w.heap.size a b l m x := by
  have hb := below_new w (.cells #[a, b, l, m, .int .i64 x.f] 25)
  have hs : (w.alloc (.cells #[a, b, l, m, .int .i64 x.f] 25)).heap.size = w.heap.size + 1 := World.size_alloc _ _
  have lt : ∀ {e s n : Nat} {v : Value} {xs : List Value}, w.ownsRow lo e s v n xs → v.ownBlock ≠ some w.heap.size := fun h e => by have := (h.lt _ e).2; omega
  have ne : ∀ {e s n : Nat} {v : Value} {xs : List Value}, w.ownsRow lo e s v n xs → ∀ g, v.ownBlock = some g → ¬ E g := fun h g e hE => by have := (h.lt _ e).1; have := he g hE; omega
  exact { jw := JW.new w _ _ _ _ _ _, lob := hl, oa := own_b16 h.oa hb, ob := own_b16 h.ob hb, ol := (lv_own h.ol).below hb, om := own_b16 h.om hb, na := lt h.oa, nb := lt h.ob, nl := fun e => lt h.ol (moB_own e), nm := lt h.om,
          ab := h.ab, al := fun g e e' => h.al g e (moB_own e'), am := h.am, bl := fun g e e' => h.bl g e (moB_own e'), bm := h.bm, lm := fun g e e' => h.lm g (moB_own e) e',
          elt := fun k hk => by have := he k hk; omega, eB := fun hk => by have := he _ hk; omega, ea := ne h.oa, eb := ne h.ob, el := fun g e => ne h.ol g (moB_own e), em := ne h.om }
theorem dis_new16 {w w1 : World} {lo e s n e' s' n' : Nat} {v v' : Value} {xs ys : List Value} (h : w.ownsRow lo e s v n xs) (h' : w1.ownsRow w.heap.size e' s' v' n' ys) : Dis v.ownBlock v'.ownBlock := fun g e1 e2 => by
  have := (h.lt g e1).2; have := (h'.lt g e2).1; omega
theorem own_f16 {w : World} {base e s n : Nat} {v : Value} {xs : List Value} (h : w.ownsRow base e s v n xs) : ∃ a c, v = .slice a n c := by
  rcases h.2 with ⟨rfl, rfl⟩ | ⟨g, cap, cur, rfl, _⟩
  · exact ⟨none, 0, rfl⟩
  · exact ⟨_, _, rfl⟩
theorem cln_end {w W w1 w2 w3 w4 Wf : World} {va vb vc vd : Value} {x : Jb.J} {R : Nat} (hlo : w.heap.size ≤ W.heap.size) (hR : R < W.heap.size) (g1 : Below W.heap.size W w1) (g2 : Below w1.heap.size w1 w2) (g3 : Below w2.heap.size w2 w3) (g4 : Below w3.heap.size w3 w4)
    (o1 : w1.ownsRow W.heap.size 3 1 va x.xs.length (ints x.xs)) (o2 : w2.ownsRow w1.heap.size 3 1 vb x.ws.length (ints x.ws)) (o3 : w3.ownsRow w2.heap.size 41 2 vc x.L.length (mce x.L)) (o4 : w4.ownsRow w3.heap.size 41 2 vd x.M.length (mce x.M))
    (hf : ∀ g, g ≠ R → Wf.heap[g]? = w4.heap[g]?) : JV Wf w.heap.size va vb vc vd x := by
  have s1 := g1.size
  have s2 := g2.size
  have s3 := g3.size
  have s4 := g4.size
  have p1 := own_b16 o1 g2
  have q1 := own_b16 p1 g3
  have r1 := own_b16 q1 g4
  have p2 := own_b16 o2 g3
  have r2 := own_b16 p2 g4
  have r3 := own_b16 o3 g4
  have fin : ∀ {base e s n : Nat} {v : Value} {xs : List Value}, w4.ownsRow base e s v n xs → W.heap.size ≤ base → Wf.ownsRow w.heap.size e s v n xs := fun h hb =>
    owns_low (own_keep2 h fun g e _ => hf g (by have := (h.lt g e).1; omega)) (by omega)
  exact { oa := fin r1 (Nat.le_refl _), ob := fin r2 (by omega), ol := fin r3 (by omega), om := fin o4 (by omega), ab := dis_new16 o1 o2, al := dis_new16 p1 o3, am := dis_new16 q1 o4, bl := dis_new16 o2 o3, bm := dis_new16 p2 o4, lm := dis_new16 o3 o4 }
set_option maxRecDepth 100000 in
set_option maxHeartbeats 4000000 in
theorem cln_any {aa ab ap am : Option Addr} {ca cb cp cm : Nat} {x : Jb.J} {w : World} (hx : 1 ≤ x.xs.length ∧ x.xs.length ≤ 9) (hw : 1 ≤ x.ws.length ∧ x.ws.length ≤ 9) (hL : x.L.length ≤ 1000) (hM : x.M.length ≤ 1000) (ra : ARow w aa x.xs) (rb : ARow w ab x.ws) (rp : FRow w ap x.L) (rm : FRow w am x.M) :
    Calls Try.prog 54 #[.agg #[.slice aa x.xs.length ca, .slice ab x.ws.length cb, .slice ap x.L.length cp, .slice am x.M.length cm, .int .i64 x.f]] w fun e w' => ∃ a b l m, e = .returned (.agg #[a, b, l, m, .int .i64 x.f]) ∧ Below w.heap.size w w' ∧ JV w' w.heap.size a b l m x := by
  obtain ⟨b1, o1, rfl, hb1, hc1⟩ := ra.resolve_left (fun e => by rw [e] at hx; simp at hx)
  obtain ⟨b2, o2, rfl, hb2, hc2⟩ := rb.resolve_left (fun e => by rw [e] at hw; simp at hw)
  have ra : ARow w (some ⟨b1, o1, none⟩) x.xs := Or.inr ⟨b1, o1, rfl, hb1, hc1⟩
  have rb : ARow w (some ⟨b2, o2, none⟩) x.ws := Or.inr ⟨b2, o2, rfl, hb2, hc2⟩
  obtain ⟨W, hW⟩ : ∃ W, W = (w.alloc (.cells #[.slice (some ⟨b1, o1, none⟩) x.xs.length ca, .slice (some ⟨b2, o2, none⟩) x.ws.length cb, .slice ap x.L.length cp, .slice am x.M.length cm, .int .i64 x.f] 25)).alloc (.cells #[.slice none 0 0, .slice none 0 0, .slice none 0 0, .slice none 0 0, .int .i64 0] 25) := ⟨_, rfl⟩
  have hs1 : (w.alloc (.cells #[.slice (some ⟨b1, o1, none⟩) x.xs.length ca, .slice (some ⟨b2, o2, none⟩) x.ws.length cb, .slice ap x.L.length cp, .slice am x.M.length cm, .int .i64 x.f] 25)).heap.size = w.heap.size + 1 := World.size_alloc _ _
  have JK : JW W w.heap.size 25 (.slice (some ⟨b1, o1, none⟩) x.xs.length ca) (.slice (some ⟨b2, o2, none⟩) x.ws.length cb) (.slice ap x.L.length cp) (.slice am x.M.length cm) (.int .i64 x.f) := by rw [hW]; exact (JW.new w _ _ _ _ _ _).alloc _
  have JR : JW W (w.heap.size + 1) 25 (.slice none 0 0) (.slice none 0 0) (.slice none 0 0) (.slice none 0 0) (.int .i64 0) := by rw [hW, ← hs1]; exact JW.new _ _ _ _ _ _ _
  have BW : Below w.heap.size w W := by rw [hW]; exact (below_new w _).trans ((below_new _ _).mono (by omega))
  have hd : Below W.heap.size W W.drew := (Below.refl _ _).drew
  have JKd := hide (JK.below hd)
  have JRd := hide (JR.below hd)
  have BWd := hide (BW.trans (hd.mono BW.size))
  have HC1 := hide fun (W' : World) (h : Below w.heap.size w W') => clone_any (c := ca) (w := W') (b := b1) (o := o1) rfl (by omega) fun i hi => (h.cell (p := ⟨b1, o1 + i, none⟩) hb1).trans (hc1 i hi)
  have HC2 := hide fun (W' : World) (h : Below w.heap.size w W') => clone_any (c := cb) (w := W') (b := b2) (o := o2) rfl (by omega) fun i hi => (h.cell (p := ⟨b2, o2 + i, none⟩) hb2).trans (hc2 i hi)
  have HC3 := hide fun (W' : World) (h : Below w.heap.size w W') => clm_any (c := cp) (w := W') rfl (by omega) (rp.below h)
  have HC4 := hide fun (W' : World) (h : Below w.heap.size w W') => clm_any (c := cm) (w := W') rfl (by omega) (rm.below h)
  have hS : W.drew.cell? ⟨w.heap.size, 0, none⟩ = some (.slice (some ⟨b1, o1, none⟩) x.xs.length ca) ∧ W.drew.cell? ⟨w.heap.size, 1, none⟩ = some (.slice (some ⟨b2, o2, none⟩) x.ws.length cb) ∧ W.drew.cell? ⟨w.heap.size, 2, none⟩ = some (.slice ap x.L.length cp) ∧ W.drew.cell? ⟨w.heap.size, 3, none⟩ = some (.slice am x.M.length cm) ∧ W.drew.cell? ⟨w.heap.size, 4, none⟩ = some (.int .i64 x.f) := JKd.out.cells
  have HW := hide hW.symm
  clear ra rb rp rm hb1 hb2 hc1 hc2 JK JR BW hd hs1 hW
  go_enter Try.func54, Try.ntmps54
  go_upto_region 1 with fail
  rw [HW.out]
  clear HW
  go_region_held3 (fun w' => w'.cell? ⟨w.heap.size, 0, none⟩ = some (.slice (some ⟨b1, o1, none⟩) x.xs.length ca) ∧ w'.cell? ⟨w.heap.size, 1, none⟩ = some (.slice (some ⟨b2, o2, none⟩) x.ws.length cb) ∧ w'.cell? ⟨w.heap.size, 2, none⟩ = some (.slice ap x.L.length cp) ∧ w'.cell? ⟨w.heap.size, 3, none⟩ = some (.slice am x.M.length cm) ∧ w'.cell? ⟨w.heap.size, 4, none⟩ = some (.int .i64 x.f))
    (first | with_reducible exact hS | with_reducible exact hS1 | with_reducible exact hS2 | with_reducible exact hS3 | with_reducible exact hS4 | go_keep | fail)
    (first
    | (go_at_call 36; with_reducible show Calls Try.prog _ _ W.drew _; refine (HC1.out _ BWd.out).mono ?_; rintro e w1 ⟨v1, rfl, g1, o11⟩; obtain ⟨x1, y1, rfl⟩ := own_f16 o11; have B1 := hide (BWd.out.trans (g1.mono BWd.out.size)); have JK1 := hide (JKd.out.below g1); have JR1 := hide (JRd.out.below g1); have hS1 := JK1.out.cells; have OW1 := hide o11; have GB1 := hide g1; clear g1 o11)
    | (go_at_call 36; with_reducible show Calls Try.prog _ _ w1 _; refine (HC2.out _ B1.out).mono ?_; rintro e w2 ⟨v2, rfl, g2, o12⟩; obtain ⟨x2, y2, rfl⟩ := own_f16 o12; have B2 := hide (B1.out.trans (g2.mono B1.out.size)); have JK2 := hide (JK1.out.below g2); have JR2 := hide (JR1.out.below g2); have hS2 := JK2.out.cells; have OW2 := hide o12; have GB2 := hide g2; clear g2 o12)
    | (go_at_call 73; with_reducible show Calls Try.prog _ _ w2 _; refine (HC3.out _ B2.out).mono ?_; rintro e w3 ⟨v3, rfl, g3, o13⟩; obtain ⟨x3, y3, rfl⟩ := own_f16 o13; have B3 := hide (B2.out.trans (g3.mono B2.out.size)); have JK3 := hide (JK2.out.below g3); have JR3 := hide (JR2.out.below g3); have hS3 := JK3.out.cells; have OW3 := hide o13; have GB3 := hide g3; clear g3 o13)
    | (go_at_call 73; with_reducible show Calls Try.prog _ _ w3 _; refine (HC4.out _ B3.out).mono ?_; rintro e w4 ⟨v4, rfl, g4, o14⟩; obtain ⟨x4, y4, rfl⟩ := own_f16 o14; have B4 := hide (B3.out.trans (g4.mono B3.out.size)); have JK4 := hide (JK3.out.below g4); have JR4 := hide (JR3.out.below g4); have hS4 := JK4.out.cells; have OW4 := hide o14; have GB4 := hide g4; obtain ⟨q0, q1, q2, q3, q4⟩ := JR4.out.cells; have z0 := JR4.out.fz 0; have z1 := JR4.out.fz 1; have z2 := JR4.out.fz 2; have z3 := JR4.out.fz 3; have z4 := JR4.out.fz 4; clear g4 o14)
    | fail)
  have J9 := ((((JR4.out.set0 (.slice x1 x.xs.length y1)).set1 (.slice x2 x.ws.length y2)).set2 (.slice x3 x.L.length y3)).set3 (.slice x4 x.M.length y4)).set4 (.int .i64 x.f)
  have hsame : ∀ g, g ≠ w.heap.size + 1 → (((((w4.setCell ⟨w.heap.size + 1, 0, none⟩ (.slice x1 x.xs.length y1)).setCell ⟨w.heap.size + 1, 1, none⟩ (.slice x2 x.ws.length y2)).setCell ⟨w.heap.size + 1, 2, none⟩ (.slice x3 x.L.length y3)).setCell ⟨w.heap.size + 1, 3, none⟩ (.slice x4 x.M.length y4)).setCell ⟨w.heap.size + 1, 4, none⟩ (.int .i64 x.f)).heap[g]? = w4.heap[g]? := fun g hg =>
    (Below.heap_setCell _ _ _ g hg).trans ((Below.heap_setCell _ _ _ g hg).trans ((Below.heap_setCell _ _ _ g hg).trans ((Below.heap_setCell _ _ _ g hg).trans (Below.heap_setCell _ _ _ g hg))))
  have hb9 : Below w.heap.size w (((((w4.setCell ⟨w.heap.size + 1, 0, none⟩ (.slice x1 x.xs.length y1)).setCell ⟨w.heap.size + 1, 1, none⟩ (.slice x2 x.ws.length y2)).setCell ⟨w.heap.size + 1, 2, none⟩ (.slice x3 x.L.length y3)).setCell ⟨w.heap.size + 1, 3, none⟩ (.slice x4 x.M.length y4)).setCell ⟨w.heap.size + 1, 4, none⟩ (.int .i64 x.f)) := by
    have hB := B4.out
    exact ((((hB.setCell (p := ⟨w.heap.size + 1, 0, none⟩) (Nat.le_succ _) _).setCell (p := ⟨w.heap.size + 1, 1, none⟩) (Nat.le_succ _) _).setCell (p := ⟨w.heap.size + 1, 2, none⟩) (Nat.le_succ _) _).setCell (p := ⟨w.heap.size + 1, 3, none⟩) (Nat.le_succ _) _).setCell (p := ⟨w.heap.size + 1, 4, none⟩) (Nat.le_succ _) _
  have HV := hide (cln_end (x := x) BWd.out.size JRd.out.lt GB1.out GB2.out GB3.out GB4.out OW1.out OW2.out OW3.out OW4.out hsame)
  generalize World.setCell _ ⟨w.heap.size + 1, 4, none⟩ (.int .i64 x.f) = W9 at *
  have HB9 := hide hb9
  obtain ⟨k0, k1, k2, k3, k4⟩ := J9.cells
  clear J9 hsame hb9 q0 q1 q2 q3 q4 z0 z1 z2 z3 z4 hS1 hS2 hS3 hS4 hS
  go_wp2_with fail
  exact bodyPost_ret (v := .agg #[.slice x1 x.xs.length y1, .slice x2 x.ws.length y2, .slice x3 x.L.length y3, .slice x4 x.M.length y4, .int .i64 x.f]) (by simp [results, Try.results54, go_sem, k0, k1, k2, k3, k4]) rfl ⟨_, _, _, _, rfl, HB9.out, HV.out⟩
theorem JP.jr {w : World} {lo : Nat} {E : Nat → Prop} {B : Nat} {a b l m : Value} {x : Jb.J} (h : JP w lo E B a b l m x) : JR w lo w.heap.size (.agg #[a, b, l, m, .int .i64 x.f]) x :=
  ⟨a, b, l, m, rfl, h.oa, h.ob, h.ol.1, (mo_own rfl h.om).mv, fun g e => by
    rcases e with e | e | e | e
    · exact h.oa.lt g e
    · exact h.ob.lt g e
    · exact ⟨h.ol.2.1 g e, h.llt g e⟩
    · exact h.om.lt g (moB_own e), Nat.le_refl _, h.ab, h.al, fun g e e' => h.am g e (moB_own e'), h.bl, fun g e e' => h.bm g e (moB_own e'), fun g e e' => h.lm g e (moB_own e')⟩
theorem JR.low {w : World} {lo lo' hi : Nat} {v : Value} {x : Jb.J} (h : JR w lo hi v x) (hl : lo' ≤ lo) : JR w lo' hi v x := by
  obtain ⟨a, b, l, m, h1, h2, h3, h4, h5, h6, h7⟩ := h.ex
  exact ⟨a, b, l, m, h1, owns_low h2 hl, owns_low h3 hl, h4, h5, fun g e => ⟨Nat.le_trans hl (h6 g e).1, (h6 g e).2⟩, h7⟩
/-- Five cells of a block are written. -/
abbrev put5 (w : World) (B : Nat) (a b l m f : Value) : World := ((((w.setCell ⟨B, 0, none⟩ a).setCell ⟨B, 1, none⟩ b).setCell ⟨B, 2, none⟩ l).setCell ⟨B, 3, none⟩ m).setCell ⟨B, 4, none⟩ f
theorem put5_same {w : World} {B g : Nat} {a b l m f : Value} (hg : g ≠ B) : (put5 w B a b l m f).heap[g]? = w.heap[g]? :=
  (Below.heap_setCell _ _ _ g hg).trans ((Below.heap_setCell _ _ _ g hg).trans ((Below.heap_setCell _ _ _ g hg).trans ((Below.heap_setCell _ _ _ g hg).trans (Below.heap_setCell _ _ _ g hg))))
theorem put5_below {w : World} {lo B : Nat} {a b l m f : Value} (h : lo ≤ B) : Below lo w (put5 w B a b l m f) :=
  (((((Below.refl _ _).setCell (p := ⟨B, 0, none⟩) h _).setCell (p := ⟨B, 1, none⟩) h _).setCell (p := ⟨B, 2, none⟩) h _).setCell (p := ⟨B, 3, none⟩) h _).setCell (p := ⟨B, 4, none⟩) h _
theorem put5_size {w : World} {B : Nat} {a b l m f : Value} : (put5 w B a b l m f).heap.size = w.heap.size := by simp [put5]
theorem JW.put5 {w : World} {B : Nat} {T : TypeId} {v0 v1 v2 v3 v4 : Value} (h : JW w B T v0 v1 v2 v3 v4) (a b l m f : Value) : JW (put5 w B a b l m f) B T a b l m f := ((((h.set0 a).set1 b).set2 l).set3 m).set4 f
/-- They are put into a variable that is there. -/
theorem JV.put {w wf : World} {lo base : Nat} {E : Nat → Prop} {B : Nat} {a b l m : Value} {x : Jb.J} (h : JV w base a b l m x) (hB : B < base) (hl : lo ≤ B) (hj : JW wf B 25 a b l m (.int .i64 x.f)) (hf : ∀ g, g ≠ B → wf.heap[g]? = w.heap[g]?) (he : ∀ k, E k → k < lo) :
    JP wf lo E B a b l m x := by
  have kp : ∀ {e s n : Nat} {v : Value} {xs : List Value}, w.ownsRow base e s v n xs → wf.ownsRow lo e s v n xs := fun h => owns_low (own_keep2 h fun g e _ => hf g (by have := (h.lt g e).1; omega)) (by omega)
  have ne : ∀ {e s n : Nat} {v : Value} {xs : List Value}, w.ownsRow base e s v n xs → v.ownBlock ≠ some B := fun h e => by have := (h.lt _ e).1; omega
  have nE : ∀ {e s n : Nat} {v : Value} {xs : List Value}, w.ownsRow base e s v n xs → ∀ g, v.ownBlock = some g → ¬ E g := fun h g e hE => by have := (h.lt _ e).1; have := he g hE; omega
  exact { jw := hj, lob := hl, oa := kp h.oa, ob := kp h.ob, ol := lv_own (kp h.ol), om := kp h.om, na := ne h.oa, nb := ne h.ob, nl := fun e => ne h.ol (moB_own e), nm := ne h.om,
          ab := h.ab, al := fun g e e' => h.al g e (moB_own e'), am := h.am, bl := fun g e e' => h.bl g e (moB_own e'), bm := h.bm, lm := fun g e e' => h.lm g (moB_own e) e',
          elt := fun k hk => by have := he k hk; have := hj.lt; omega, eB := fun hk => by have := he _ hk; omega, ea := nE h.oa, eb := nE h.ob, el := fun g e => nE h.ol g (moB_own e), em := nE h.om }
/-- What DoJob answers. -/
def doB (x : Jb.J) (o : Int) : Bool := goodJ x && (Jb.doJ x o).isSome
def doV (x : Jb.J) (o : Int) : Jb.J := if goodJ x then (Jb.doJ x o).getD zeroJ else zeroJ
theorem do_no1 {x : Jb.J} {o : Int} (h : goodJ x = false) : doB x o = false ∧ doV x o = zeroJ := by unfold doB doV; rw [h]; exact ⟨rfl, rfl⟩
theorem do_no2 {x : Jb.J} {o : Int} (h : Jb.doJ x o = none) : doB x o = false ∧ doV x o = zeroJ := by unfold doB doV; rw [h]; simp
theorem do_yes {x y : Jb.J} {o : Int} (h : goodJ x = true) (h2 : Jb.doJ x o = some y) : doB x o = true ∧ doV x o = y := by unfold doB doV; rw [h, h2]; exact ⟨rfl, rfl⟩
set_option maxHeartbeats 4000000 in
theorem do_in {v : Value} {x : Jb.J} {o : Int} {w : World} (h : JIn w v x) :
    Calls Try.prog 25 #[v, .int .i64 o] w fun e w' => ∃ u, e = .returned (.tuple #[u, .bool (doB x o)]) ∧ Below w.heap.size w w' ∧ JR w' w.heap.size w'.heap.size u (doV x o) := by
  obtain ⟨a, b, p, r, c, d, e, t, rfl, hc, hd, ra, rb, rp, rr⟩ := h.ex
  obtain ⟨W, hW⟩ : ∃ W, W = (w.alloc (.cells #[.slice a x.xs.length c, .slice b x.ws.length d, .slice p x.L.length e, .slice r x.M.length t, .int .i64 x.f] 25)).alloc (.cells #[.slice none 0 0, .slice none 0 0, .slice none 0 0, .slice none 0 0, .int .i64 0] 25) := ⟨_, rfl⟩
  have hs1 : (w.alloc (.cells #[.slice a x.xs.length c, .slice b x.ws.length d, .slice p x.L.length e, .slice r x.M.length t, .int .i64 x.f] 25)).heap.size = w.heap.size + 1 := World.size_alloc _ _
  have JK : JW W w.heap.size 25 (.slice a x.xs.length c) (.slice b x.ws.length d) (.slice p x.L.length e) (.slice r x.M.length t) (.int .i64 x.f) := by rw [hW]; exact (JW.new w _ _ _ _ _ _).alloc _
  have JR : JW W (w.heap.size + 1) 25 (.slice none 0 0) (.slice none 0 0) (.slice none 0 0) (.slice none 0 0) (.int .i64 0) := by rw [hW, ← hs1]; exact JW.new _ _ _ _ _ _ _
  have BW : Below w.heap.size w W := by rw [hW]; exact (below_new w _).trans ((below_new _ _).mono (by omega))
  have HG := hide (gj_in (h.below BW) rfl)
  have HR := hide (⟨ra.below BW, rb.below BW, rp.below BW, rr.below BW⟩ : _ ∧ _ ∧ _ ∧ _)
  obtain ⟨k0, k1, k2, k3, k4⟩ := JK.cells
  have HJR := hide JR
  have HJK := hide JK
  have HBW := hide BW
  have HW := hide hW.symm
  clear h ra rb rp rr JK JR BW hs1 hW
  go_enter Try.func25, Try.ntmps25
  go_upto_region 1 with fail
  rw [HW.out]
  clear HW
  go_wp2_with fail
  refine HG.out.mono ?_
  rintro _ w1 ⟨rfl, hb1⟩
  clear k0 k1 k2 k3 k4
  cases hg : goodJ x
  · obtain ⟨e1, e2⟩ := do_no1 (o := o) hg
    have HBF := hide ((HBW.out.trans (hb1.mono HBW.out.size)).trans (put5_below (w := w1) (B := w.heap.size + 1) (a := .slice none 0 0) (b := .slice none 0 0) (l := .slice none 0 0) (m := .slice none 0 0) (f := .int .i64 0) (Nat.le_succ _)))
    have J1 := HJR.out.below hb1
    obtain ⟨q0, q1, q2, q3, q4⟩ := J1.cells
    have z0 := J1.fz 0
    have z1 := J1.fz 1
    have z2 := J1.fz 2
    have z3 := J1.fz 3
    have z4 := J1.fz 4
    have HJ9 := hide (J1.put5 (.slice none 0 0) (.slice none 0 0) (.slice none 0 0) (.slice none 0 0) (.int .i64 0)).cells
    clear hb1 J1
    go_wp2_with fail
    show bodyPost _ _ _ _ _ (put5 w1 (w.heap.size + 1) (.slice none 0 0) (.slice none 0 0) (.slice none 0 0) (.slice none 0 0) (.int .i64 0))
    generalize put5 w1 (w.heap.size + 1) (.slice none 0 0) (.slice none 0 0) (.slice none 0 0) (.slice none 0 0) (.int .i64 0) = Wf at *
    obtain ⟨k0, k1, k2, k3, k4⟩ := HJ9.out
    exact bodyPost_ret (v := .tuple #[.agg #[.slice none 0 0, .slice none 0 0, .slice none 0 0, .slice none 0 0, .int .i64 0], .bool false]) (by simp [results, Try.results25, go_sem, k0, k1, k2, k3, k4]) rfl ⟨_, by rw [e1], HBF.out, by rw [e2]; exact JR.zero _ _ _ (Nat.le_refl _)⟩
  · have hft := Jb.good_fit hg
    obtain ⟨hs, hn, hm6⟩ := good_same16 hg
    have h2 := hft.two
    have HC := hide (cln_any (x := x) (w := w1) (ca := c) (cb := d) (cp := e) (cm := t) hn (by have := h2.2.2; simp at this; omega) (by have := hft.few; simp at this; omega) (by omega) (HR.out.1.below hb1) (HR.out.2.1.below hb1) (HR.out.2.2.1.below hb1) (HR.out.2.2.2.below hb1))
    have J1 := HJR.out.below hb1
    have HJ1 := hide J1
    obtain ⟨k0, k1, k2, k3, k4⟩ := (HJK.out.below hb1).cells
    have HB1 := hide (HBW.out.trans (hb1.mono HBW.out.size))
    have HF := hide hft
    clear hb1 hs hn hm6 h2 J1 HR HG
    go_wp2_with fail
    refine HC.out.mono ?_
    rintro _ w2 ⟨va, vb, vl, vm, rfl, hb2, hv⟩
    obtain ⟨x1, y1, rfl⟩ := own_f16 hv.oa
    obtain ⟨x2, y2, rfl⟩ := own_f16 hv.ob
    obtain ⟨x3, y3, rfl⟩ := own_f16 hv.ol
    obtain ⟨x4, y4, rfl⟩ := own_f16 hv.om
    have hP := hv.box (E := fun _ => False) hb2.size (fun k hk => hk.elim)
    have HT := hide (try_any (o := o) ⟨_, _, _, _, hP⟩ HF.out)
    have HLO := hide HB1.out.size
    have HJ2 := hide (⟨HJ1.out.lt, (HJ1.out.below hb2).alloc _⟩ : (w.heap.size + 1 < w1.heap.size ∧ JW (w2.alloc (.cells #[.slice x1 x.xs.length y1, .slice x2 x.ws.length y2, .slice x3 x.L.length y3, .slice x4 x.M.length y4, .int .i64 x.f] 25)) (w.heap.size + 1) 25 (.slice none 0 0) (.slice none 0 0) (.slice none 0 0) (.slice none 0 0) (.int .i64 0)))
    have HB2 := hide ((HB1.out.trans (hb2.mono HB1.out.size)).trans ((below_new w2 (.cells #[.slice x1 x.xs.length y1, .slice x2 x.ws.length y2, .slice x3 x.L.length y3, .slice x4 x.M.length y4, .int .i64 x.f] 25)).mono (Nat.le_trans HB1.out.size hb2.size)))
    clear hb2 hv hP HC HJ1 HJR HJK k0 k1 k2 k3 k4
    go_wp2_with fail
    refine HT.out.mono ?_
    rintro _ w3 ⟨rfl, hj, hf⟩
    have HB3 := hide (HB2.out.trans (hf.1.mono HLO.out))
    have J3 : JW w3 (w.heap.size + 1) 25 _ _ _ _ _ := (hf.1.block _ HJ2.out.1).trans HJ2.out.2
    have hres := HJ2.out.1
    clear HT HB2 hf HJ2
    cases hd : Jb.doJ x o with
    | none =>
      obtain ⟨e1, e2⟩ := do_no2 (o := o) hd
      clear hj
      have HBF := hide (HB3.out.trans (put5_below (w := w3) (B := w.heap.size + 1) (a := .slice none 0 0) (b := .slice none 0 0) (l := .slice none 0 0) (m := .slice none 0 0) (f := .int .i64 0) (Nat.le_succ _)))
      obtain ⟨q0, q1, q2, q3, q4⟩ := J3.cells
      have z0 := J3.fz 0
      have z1 := J3.fz 1
      have z2 := J3.fz 2
      have z3 := J3.fz 3
      have z4 := J3.fz 4
      have HJ9 := hide (J3.put5 (.slice none 0 0) (.slice none 0 0) (.slice none 0 0) (.slice none 0 0) (.int .i64 0)).cells
      clear J3
      simp only [Option.isSome]
      go_wp2_with fail
      show bodyPost _ _ _ _ _ (put5 w3 (w.heap.size + 1) (.slice none 0 0) (.slice none 0 0) (.slice none 0 0) (.slice none 0 0) (.int .i64 0))
      generalize put5 w3 (w.heap.size + 1) (.slice none 0 0) (.slice none 0 0) (.slice none 0 0) (.slice none 0 0) (.int .i64 0) = Wf at *
      obtain ⟨k0, k1, k2, k3, k4⟩ := HJ9.out
      exact bodyPost_ret (v := .tuple #[.agg #[.slice none 0 0, .slice none 0 0, .slice none 0 0, .slice none 0 0, .int .i64 0], .bool false]) (by simp [results, Try.results25, go_sem, k0, k1, k2, k3, k4]) rfl ⟨_, by rw [e1], HBF.out, by rw [e2]; exact JR.zero _ _ _ (Nat.le_refl _)⟩
    | some y =>
      obtain ⟨e1, e2⟩ := do_yes (o := o) hg hd
      have ey : Jb.oneJ x o = y := by unfold Jb.oneJ; rw [hd]; rfl
      rw [ey] at hj
      obtain ⟨a9, b9, l9, m9, h9⟩ := hj
      obtain ⟨u1, t1, rfl⟩ := own_f16 h9.oa
      obtain ⟨u2, t2, rfl⟩ := own_f16 h9.ob
      obtain ⟨u3, t3, rfl, _⟩ := h9.ol.2.2
      obtain ⟨u4, t4, rfl⟩ := own_f16 h9.om
      obtain ⟨c0, c1, c2, c3, c4⟩ := h9.jw.cells
      have HBF := hide (HB3.out.trans (put5_below (w := w3) (B := w.heap.size + 1) (a := .slice u1 y.xs.length t1) (b := .slice u2 y.ws.length t2) (l := .slice u3 y.L.length t3) (m := .slice u4 y.M.length t4) (f := .int .i64 y.f) (Nat.le_succ _)))
      have hjr := ((h9.jr.keep (w' := put5 w3 (w.heap.size + 1) (.slice u1 y.xs.length t1) (.slice u2 y.ws.length t2) (.slice u3 y.L.length t3) (.slice u4 y.M.length t4) (.int .i64 y.f)) (by rw [put5_size]; exact Nat.le_refl _) fun g g1 _ => put5_same (by omega)).low HLO.out)
      rw [← put5_size (w := w3) (B := w.heap.size + 1) (a := .slice u1 y.xs.length t1) (b := .slice u2 y.ws.length t2) (l := .slice u3 y.L.length t3) (m := .slice u4 y.M.length t4) (f := .int .i64 y.f)] at hjr
      have HJ8 := hide hjr
      obtain ⟨q0, q1, q2, q3, q4⟩ := J3.cells
      have z0 := J3.fz 0
      have z1 := J3.fz 1
      have z2 := J3.fz 2
      have z3 := J3.fz 3
      have z4 := J3.fz 4
      have HJ9 := hide (J3.put5 (.slice u1 y.xs.length t1) (.slice u2 y.ws.length t2) (.slice u3 y.L.length t3) (.slice u4 y.M.length t4) (.int .i64 y.f)).cells
      clear h9 J3 hjr
      simp only [Option.isSome]
      go_wp2_with fail
      show bodyPost _ _ _ _ _ (put5 w3 (w.heap.size + 1) (.slice u1 y.xs.length t1) (.slice u2 y.ws.length t2) (.slice u3 y.L.length t3) (.slice u4 y.M.length t4) (.int .i64 y.f))
      generalize put5 w3 (w.heap.size + 1) (.slice u1 y.xs.length t1) (.slice u2 y.ws.length t2) (.slice u3 y.L.length t3) (.slice u4 y.M.length t4) (.int .i64 y.f) = Wf at *
      obtain ⟨k0, k1, k2, k3, k4⟩ := HJ9.out
      exact bodyPost_ret (v := .tuple #[.agg #[.slice u1 y.xs.length t1, .slice u2 y.ws.length t2, .slice u3 y.L.length t3, .slice u4 y.M.length t4, .int .i64 y.f], .bool true]) (by simp [results, Try.results25, go_sem, k0, k1, k2, k3, k4]) rfl ⟨_, by rw [e1], HBF.out, by rw [e2]; exact HJ8.out⟩
end Go.Proofs.Ytnjkdfeajlnojaa
