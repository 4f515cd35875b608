/-
  isElsewhere and beginsRing of the program.
-/
import Derived.Test.YtdigcbjkobjdmaaNc10
import Derived.Test.YtdigcbjkobjdmaaMl10
import Derived.Deep.LoopGhost
namespace Go.Proofs.Ytdigcbjkobjdmaa
open Go.RowKit

set_option maxHeartbeats 4000000 in
theorem ie_any {a b : Option Addr} {n k c d : Nat} {xs ws : List Int} {w : World} (hx : xs.length = n) (hy : ws.length = n) (hk : k < n) (ha : ARow w a xs) (hbw : ARow w b ws) :
    Calls Try.prog 48 #[.agg #[.slice a n c, .slice b n d], .int .i64 (k : Int)] w fun e w' => e = .returned (.bool ((xs.getD k 0 != 0) && (xs.getD k 0 != ws.getD k 0))) ∧ Below w.heap.size w w' := by
  have hb := below_new w (.cells #[.slice a n c, .slice b n d] 56)
  have c0 : (w.alloc (.cells #[.slice a n c, .slice b n d] 56)).cell? ⟨w.heap.size, 0, none⟩ = some (.slice a n c) := by simp
  have c1 : (w.alloc (.cells #[.slice a n c, .slice b n d] 56)).cell? ⟨w.heap.size, 1, none⟩ = some (.slice b n d) := by simp
  obtain ⟨W2, hW2⟩ : ∃ W, W = w.alloc (.cells #[.slice a n c, .slice b n d] 56) := ⟨_, rfl⟩
  rw [← hW2] at hb c0 c1
  obtain ⟨b1, o1, rfl, q1⟩ := (hbw.below hb).at (i := k) (by rw [hy]; exact hk)
  obtain ⟨b2, o2, rfl, q2⟩ := (ha.below hb).at (i := k) (by rw [hx]; exact hk)
  have HB := hide hb
  have HBQ := hide fun (q : Nat) => below_drewN hb q
  have HW2 := hide hW2.symm
  obtain ⟨B, hB⟩ : ∃ B, B = w.heap.size := ⟨_, rfl⟩
  rw [← hB] at c0 c1
  have HBe := hide hB.symm
  have i0 : (0 : Int) ≤ (k : Int) := by omega
  have i1 : (k : Int) < (n : Int) := by omega
  clear hb hW2 hB ha hbw hx hy
  generalize ws.getD k 0 = g at *
  generalize xs.getD k 0 = x at *
  go_enter Try.func48, Try.ntmps48
  go_upto_region 1 with fail
  rw [HW2.out, HBe.out]
  clear HW2 HBe
  cases h0 : (x != 0)
  · go_wp2_with fail
    go_quiet (fail)
    go_wp2_with fail
    go_ret
    exact ⟨by rw [h0]; rfl, HBQ.out _⟩
  · cases h1 : (x != g)
    · go_wp2_with fail
      go_quiet (fail)
      go_wp2_with fail
      go_ret
      exact ⟨by rw [h0, h1]; rfl, HBQ.out _⟩
    · go_wp2_with fail
      go_quiet (fail)
      go_wp2_with fail
      go_ret
      exact ⟨by rw [h0, h1]; rfl, HBQ.out _⟩
theorem idx_nxt {xs ws : List Int} {n p : Nat} (hy : ws.length = n) (h2 : Mv.Two n (Mx.fn xs) (Mx.fn ws)) (hp : p < n) (ha : Mv.Away (Mx.fn xs) (Mx.fn ws) p) : ∃ q : Nat, Mv.nxt n (Mx.fn xs) (Mx.fn ws) p = some q ∧ Ma.idx ws (xs.getD p 0) = (q : Int) ∧ q < n := by
  obtain ⟨j, hj, ej⟩ := h2.ab p hp ha.1
  obtain ⟨f, e1, hf, e2⟩ := Mx.idx_is hy hj ej
  refine ⟨f, ?_, e1, hf⟩
  rw [Mv.nxt_of hp ha, Mv.spot_uniq h2.sb hf ha.1 e2]
/-- How a walk from k stands, and how it goes on. -/
structure BR (n k K gk t p : Nat) (xs ws : List Int) : Prop where
  bw : Mv.Bw (Mv.nxt n (Mx.fn xs) (Mx.fn ws)) k t p
  lt : p < n
  sum : t + gk = K
theorem br_start {xs ws : List Int} {n k : Nat} (hy : ws.length = n) (h2 : Mv.Two n (Mx.fn xs) (Mx.fn ws)) (hk : k < n) (ha : Mv.Away (Mx.fn xs) (Mx.fn ws) k) : ∃ K gk q : Nat, (∀ x, Mv.it (Mv.nxt n (Mx.fn xs) (Mx.fn ws)) K k = some x → (0 < K ∧ x = k) ∨ Mv.nxt n (Mx.fn xs) (Mx.fn ws) x = none) ∧ Ma.idx ws (xs.getD k 0) = (q : Int) ∧ BR n k K gk 1 q xs ws := by
  obtain ⟨K, hK⟩ := Mv.stop_of (n := n) (Mv.nxt_inj h2) (fun i x e => (Mv.nxt_some e).1) k
  obtain ⟨q, e1, e2, hq⟩ := idx_nxt hy h2 hk ha
  have h0 : 0 < K := by
    apply Nat.pos_of_ne_zero
    rintro rfl
    rcases hK k rfl with ⟨h, _⟩ | h
    · omega
    · rw [e1] at h; cases h
  exact ⟨K, K - 1, q, hK, e2, Mv.Bw.start e1, hq, by omega⟩
theorem br_step {xs ws : List Int} {n k K gk t p : Nat} (hy : ws.length = n) (h2 : Mv.Two n (Mx.fn xs) (Mx.fn ws)) (hK : ∀ x, Mv.it (Mv.nxt n (Mx.fn xs) (Mx.fn ws)) K k = some x → (0 < K ∧ x = k) ∨ Mv.nxt n (Mx.fn xs) (Mx.fn ws) x = none) (h : BR n k K gk t p xs ws) (hp : k < p) (h0 : xs.getD p 0 ≠ 0) : ∃ q : Nat, Ma.idx ws (xs.getD p 0) = (q : Int) ∧ 0 < gk ∧ BR n k K (gk - 1) (t + 1) q xs ws := by
  obtain ⟨t', rfl⟩ : ∃ t', t = t' + 1 := ⟨t - 1, by have := h.bw.pos; omega⟩
  obtain ⟨a, _, ha⟩ := Mv.it_prev h.bw.now
  have haw := Mv.away_to h2 ha h0
  obtain ⟨q, e1, e2, hq⟩ := idx_nxt hy h2 h.lt haw
  have hs := h.sum
  have hg : 0 < gk := by
    apply Nat.pos_of_ne_zero
    rintro rfl
    rcases hK p (by rw [← hs]; exact h.bw.now) with ⟨_, e⟩ | e
    · omega
    · rw [e1] at e; cases e
  exact ⟨q, e2, hg, h.bw.step hp e1, hq, by omega⟩
theorem br_end {xs ws : List Int} {n k K gk t p : Nat} (h : BR n k K gk t p xs ws) (hp : ¬ k < p) : (((p : Int) == (k : Int)) = true) ↔ Mv.Lead (Mv.nxt n (Mx.fn xs) (Mx.fn ws)) k := by
  by_cases e : p = k
  · subst e; simp; exact h.bw.yes
  · have h1 : ¬ ((p : Int) == (k : Int)) = true := by simp; omega
    exact ⟨fun h' => absurd h' h1, fun h' => absurd h' (h.bw.low (by omega))⟩
theorem br_out {xs ws : List Int} {n k K gk t p : Nat} (h : BR n k K gk t p xs ws) (hp : k < p) (h0 : xs.getD p 0 = 0) : (((p : Int) == (k : Int)) = true) ↔ Mv.Lead (Mv.nxt n (Mx.fn xs) (Mx.fn ws)) k := by
  have h1 : ¬ ((p : Int) == (k : Int)) = true := by simp; omega
  refine ⟨fun h' => absurd h' h1, fun h' => absurd h' (h.bw.out (Mv.nxt_none fun e => ?_))⟩
  have h2 : 0 < xs.getD p 0 := e.2.1
  omega
set_option maxHeartbeats 4000000 in
theorem br_any {a b : Option Addr} {n k c d : Nat} {xs ws : List Int} {w : World} (hx : xs.length = n) (hy : ws.length = n) (hk : k < n) (hn : n ≤ 1000) (h2 : Mv.Two n (Mx.fn xs) (Mx.fn ws)) (haw : Mv.Away (Mx.fn xs) (Mx.fn ws) k) (ha : ARow w a xs) (hbw : ARow w b ws) :
    Calls Try.prog 49 #[.agg #[.slice a n c, .slice b n d], .int .i64 (k : Int)] w fun e w' => ∃ r : Bool, e = .returned (.bool r) ∧ (r = true ↔ Mv.Lead (Mv.nxt n (Mx.fn xs) (Mx.fn ws)) k) ∧ Below w.heap.size w w' := by
  have hb := below_new w (.cells #[.slice a n c, .slice b n d] 56)
  have c0 : (w.alloc (.cells #[.slice a n c, .slice b n d] 56)).cell? ⟨w.heap.size, 0, none⟩ = some (.slice a n c) := by simp
  have c1 : (w.alloc (.cells #[.slice a n c, .slice b n d] 56)).cell? ⟨w.heap.size, 1, none⟩ = some (.slice b n d) := by simp
  obtain ⟨W2, hW2⟩ : ∃ W, W = w.alloc (.cells #[.slice a n c, .slice b n d] 56) := ⟨_, rfl⟩
  rw [← hW2] at hb c0 c1
  obtain ⟨b2, o2, rfl, q2⟩ := (ha.below hb).at (i := k) (by rw [hx]; exact hk)
  have HA := hide (ha.below hb)
  have HX := hide hx
  have HBQ := hide fun (q : Nat) => below_drewN hb q
  have hrow := hbw.below hb
  have HIX := hide fun (q : Nat) (x : Int) => ix_any (w := W2.drewN q) (c := d) (x := x) hy (by omega) (show ARow (W2.drewN q) b ws from hrow)
  obtain ⟨K, gk0, p0, hK, e0, hbr⟩ := br_start hy h2 hk haw
  have HK := hide hK
  have HR := hide hbr
  have HY := hide hy
  have HT := hide h2
  have HW2 := hide hW2.symm
  obtain ⟨B, hB⟩ : ∃ B, B = w.heap.size := ⟨_, rfl⟩
  rw [← hB] at c0 c1
  have HBe := hide hB.symm
  have i0 : (0 : Int) ≤ (k : Int) := by omega
  have i1 : (k : Int) < (n : Int) := by omega
  have HI0 := HIX.out 0 (xs.getD k 0)
  rw [e0] at HI0
  have HIF := hide fun (q : Nat) => (e0 ▸ HIX.out q (xs.getD k 0) : Calls Try.prog 50 #[.slice b n d, .int .i64 (xs.getD k 0)] (W2.drewN q) fun e w' => e = .returned (.int .i64 (p0 : Int)) ∧ w' = W2.drewN q)
  clear hb hW2 hB ha hbw hx hy hrow hK hbr HI0 e0 h2 haw
  go_enter Try.func49, Try.ntmps49
  go_upto_region 1 with fail
  rw [HW2.out, HBe.out]
  clear HW2 HBe
  generalize xs.getD k 0 = x0 at *
  go_wp2_with fail
  go_quiet ((go_at_call 50; exact Calls.quiet_of_same (HIF.out _)))
  go_wp2_with fail
  go_loopg [5] gk0 (fun gk s5 wr => ∃ (p t q : Nat), s5 = .int .i64 p ∧ Hid (BR n k K gk t p xs ws) ∧ wr = W2.drewN q)
  case atStart => exact ⟨p0, 1, _, rfl, HR, rfl⟩
  case round =>
    obtain ⟨p, t, q, rfl, HR1, rfl⟩ := hrel
    have hpn := HR1.out.lt
    have j0 : (0 : Int) ≤ (p : Int) := by omega
    have j1 : (p : Int) < (n : Int) := by omega
    have q3 : W2.cell? ⟨b2, o2 + p, none⟩ = some (.int .i64 (xs.getD p 0)) := by
      obtain ⟨_, _, e, q⟩ := HA.out.at (i := p) (by rw [HX.out]; exact hpn)
      cases e; exact q
    by_cases hkp : k < p
    · have hkp' : (k : Int) < (p : Int) := by omega
      by_cases h0 : xs.getD p 0 = 0
      · have HE := hide (br_out HR1.out hkp h0)
        rw [h0] at q3
        clear h0
        go_wp2_with fail
        go_ret
        exact ⟨_, rfl, HE.out, HBQ.out _⟩
      · obtain ⟨p1, e1, hg, hr1⟩ := br_step HY.out HT.out HK.out HR1.out hkp h0
        have HR2 := hide hr1
        have HIG := hide fun (m : Nat) => (e1 ▸ HIX.out m (xs.getD p 0) : Calls Try.prog 50 #[.slice b n d, .int .i64 (xs.getD p 0)] (W2.drewN m) fun e w' => e = .returned (.int .i64 (p1 : Int)) ∧ w' = W2.drewN m)
        generalize xs.getD p 0 = x at *
        have hx0 : (x != 0) = true := bne_iff_ne.2 h0
        clear hr1 e1
        go_wp2_with fail
        go_quiet ((go_at_call 50; exact (HIG.out _).mono fun _ _ h => ⟨h.1, _, h.2⟩))
        go_wp2_with fail
        go_roundg (gk - 1)
        case measure => omega
        case rel => exact ⟨p1, t + 1, q + nq, rfl, HR2, by first | rfl | simp | simp [go_sem]⟩
    · have hd : decide ((k : Int) < (p : Int)) = false := by simp; omega
      have HE := hide (br_end HR1.out hkp)
      go_wp2_with fail
      go_ret
      exact ⟨_, rfl, HE.out, HBQ.out _⟩
end Go.Proofs.Ytdigcbjkobjdmaa
