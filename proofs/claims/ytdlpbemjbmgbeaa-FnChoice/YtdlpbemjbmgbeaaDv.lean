/-
  Draws of chapter 6: DrawValueOf.
-/
import Derived.Test.YtdlpbemjbmgbeaaCx
import Derived.Test.YtdlpbemjbmgbeaaCz
namespace Go.Proofs.Ytdlpbemjbmgbeaa
open Go.RowKit

/-- Counts that are being drawn. -/
structure VI (w wr : World) (c len cap N : Nat) (a : Option Addr) (v : Value) (cs : List Int) : Prop where
  own : wr.ownsRow w.heap.size 3 1 v cs.length (ints cs)
  kp : Kp c w wr
  cur : Cur wr c a len cap N
theorem VI.le {w wr : World} {c len cap N M : Nat} {a : Option Addr} {v : Value} {cs : List Int} (h : VI w wr c len cap N a v cs) (hNM : N ≤ M) : VI w wr c len cap M a v cs := ⟨h.own, h.kp, h.cur.le hNM⟩
theorem VI.pass {w wr w2 : World} {c len cap N M : Nat} {a : Option Addr} {v : Value} {cs : List Int} (h : VI w wr c len cap N a v cs) (hc : c < w.heap.size) (hk : Kp c wr w2) (hcur : Cur w2 c a len cap M) : VI w w2 c len cap M a v cs := ⟨o_kp h.own hk hc, h.kp.trans hk, hcur⟩
theorem VI.step {w wr w5 : World} {c len cap N G C : Nat} {a : Option Addr} {v : Value} {cs : List Int} {x : Int} {o : Obj} (h : VI w wr c len cap N a v cs) (hc : c < w.heap.size) (ho : ∀ b off, a = some ⟨b, off, none⟩ → 0 < len → b < w.heap.size) (hg : (wr.alloc o).grownBy w5 v.ownBlock)
    (own5 : w5.ownsRow w.heap.size 3 1 (.slice (some ⟨G, 0, none⟩) (cs.length + 1) C) (cs.length + 1) (ints cs ++ [.int .i64 x])) : VI w w5 c len cap N a (.slice (some ⟨G, 0, none⟩) (cs.length + 1) C) (cs ++ [x]) := by
  have hs := h.kp.size
  have hs5 := hg.size
  rw [World.size_alloc] at hs5
  have hB : Below w.heap.size wr w5 := ⟨hg.os, hg.tape, hg.output, by omega, fun b hb => (hg.block b (by rw [World.size_alloc]; omega) fun e => by have := (h.own.lt b e.symm).1; omega).trans ((o_below_new wr o).block b (by omega))⟩
  refine ⟨?_, kp_below h.kp hB (Nat.le_refl _), h.cur.low hB hc ho⟩
  rw [show (cs ++ [x]).length = cs.length + 1 by simp, show ints (cs ++ [x]) = ints cs ++ [.int .i64 x] by simp [ints]]
  exact own5
theorem ov_slice {w : World} {base n : Nat} {v : Value} {xs : List Int} (hx : xs.length = n) (h : w.ownsRow base 3 1 v n (ints xs)) : ∃ a cap, v = .slice a n cap ∧ ARow w a xs := by
  rcases h.2 with ⟨rfl, hn⟩ | ⟨g, cap, cur, rfl, _⟩
  · subst hn; exact ⟨none, 0, rfl, Or.inl (List.length_eq_zero_iff.1 hx)⟩
  · exact ⟨_, _, rfl, arow_owns hx.symm h⟩

set_option maxRecDepth 100000 in
set_option maxHeartbeats 4000000 in
theorem drawVa_any {a : Option Addr} {len cap : Nat} {w : World} (hs : Hid (Src w a len)) :
    Calls Try.prog 15 #[.slice a len cap] w fun e w' => ∃ ao C L b d cs, e = .returned (.tuple #[.slice ao (List.length L) C, .slice b (List.length cs) d]) ∧ L.length ≤ 13 ∧ cs.length = L.length ∧ ORow w' ao L ∧ ARow w' b cs ∧ Below w.heap.size w w' := by
  have HC := hide (cur_new (cap := cap) hs.out)
  have HH := hide (src_hold (.cells #[.slice a len cap, .int .i64 0, .int .u64 0] 65) hs.out)
  obtain ⟨i9, hi9, hz0, hz1, hz2⟩ := infoI
  go_enter Try.func15, Try.ntmps15
  go_wp2_with fail
  refine (offers_any HC.out (by omega) HH.out).mono ?_
  rintro e w1 ⟨v1, us, L, rfl, hl, hL⟩
  obtain ⟨ao, C, rfl⟩ := hL.val
  have HL := hide hL
  have hz1s := hL.kp.size
  rw [World.size_alloc] at hz1s
  have HO := hide (fun b off e hl => Nat.lt_of_lt_of_le (HH.out b off e hl) hL.kp.size)
  have HR := hide (hL.row rfl).2
  clear hL HC HH
  go_wp2_with fail
  go_loopw [6, 8, 16] (fun s6 _ s16 wr => ∃ (j : Nat) (cs : List Int), s16 = .int .i64 j ∧ j ≤ L.length ∧ cs.length = j ∧ Hid (VI w1 wr w.heap.size len cap (500 + 2 * j) a s6 cs)) (fun _ _ s _ => (L.length - (intOf s).toNat))
  case atStart => exact ⟨0, [], rfl, by omega, rfl, hide ⟨World.ownsRow_nil _ _ _ _, Kp.refl _ _, HL.out.cur.le (by omega)⟩⟩
  case round =>
    obtain ⟨j, cs, rfl, hj, hcl, HV⟩ := hrel
    by_cases e : j < L.length
    · have j0 : (0 : Int) ≤ (j : Int) := by omega
      have j1 : (j : Int) < (L.length : Int) := by omega
      have hsr := HV.out.kp.size
      obtain ⟨b, off, ai, ci, rfl, hbl, hce, har⟩ := HR.out.at e
      have hsm := HL.out.small j
      have hbne : b ≠ w.heap.size := by have := (HL.out.outer.lt b rfl).1; rw [World.size_alloc] at this; omega
      have hcw := (HV.out.kp.cell (b := b) (o := off + j) hbl hbne).trans hce
      generalize (L.getD j []).length = q at hcw hsm
      clear har hce
      have HVa := hide (HV.out.pass (w2 := wr.alloc (.cells #[.slice ai q ci] 36)) (by omega) (Kp.of_below (o_below_new _ _)) (HV.out.cur.below (o_below_new _ _)))
      go_wp2_with fail
      refine (pick_any ((q : Int) + 1) (by omega) HVa.out.cur (by omega)).mono ?_
      rintro e w2 ⟨r, rfl, hr0, hr1, hc2, hk2⟩
      have HV2 := hide (HVa.out.pass (by omega) hk2 hc2)
      have hs2 := HV2.out.kp.size
      clear hc2 hk2 HVa HV
      go_wp2_with (first | (at_builtin; refine wpList_append_lies _ rfl _ _ 26 rfl w1.heap.size 3 i9 (.int .i64 0) 1 8 Try.underlying26 hi9 hz0 hz1 hz2 rfl (by decide) _ _ _ rfl (HV2.out.own.alloc _) ⟨w2.heap.size, 0, none⟩ 1 1 [.int .i64 r] rfl rfl (newS_one' _ _ _ rfl) (fun u hu => by simp at hu; subst hu; rfl) (by omega) (by unfold maxLen; omega) (by omega) (by simp; omega) (w2.heap.size + 1) (by simp) ?_))
      intro G5 C5 w5 own5 hg5 hat5 hlt5
      have h5 := (HV2.out.step (by omega) HO.out hg5 (by rw [hcl]; exact own5)).le (show _ ≤ 500 + 2 * (j + 1) by omega)
      rw [hcl] at h5
      have HV5 := hide h5
      clear h5
      clear own5 hg5
      go_wp2_with fail
      go_roundw
      case rel => exact ⟨j + 1, cs ++ [r], by go_num, by omega, by simp [hcl], HV5⟩
      case measure => simp only [intOf]; omega
    · obtain rfl : j = L.length := by omega
      have HVe := hide (HV.out.le (show _ ≤ 600 by omega))
      have HCL := hide hcl
      have hc13 : cs.length ≤ 13 := by omega
      obtain ⟨ac, cc, rfl, _⟩ := ov_slice rfl HVe.out.own
      clear HV hcl
      by_cases h0 : 0 < cs.length
      · have l0 : (0 : Int) < (cs.length : Int) := by omega
        obtain ⟨g, rfl, hgb⟩ : ∃ g, ac = some ⟨g, 0, none⟩ ∧ w1.heap.size ≤ g := by
          rcases HVe.out.own.2 with ⟨_, hn⟩ | ⟨g, cp, cur, hv, hb, _⟩
          · omega
          · cases hv; exact ⟨g, rfl, hb⟩
        go_wp2_with fail
        refine (one_any 12 (by omega) HVe.out.cur (by omega)).mono ?_
        rintro e w3 ⟨r3, rfl, hc3, hk3⟩
        have HV3 := hide (HVe.out.pass (by omega) hk3 hc3)
        clear hc3 hk3 HVe
        cases r3
        · have HF := hide (HL.out.pass (by rw [World.size_alloc]; omega) HV3.out.kp HV3.out.cur)
          have HA := hide (arow_owns rfl HV3.out.own)
          go_wp2_with fail
          refine bodyPost_ret (v := .tuple #[.slice ao L.length C, .slice (some ⟨g, 0, none⟩) cs.length cc]) (by simp [results, Try.results15, go_sem]) rfl ?_
          exact ⟨ao, C, L, _, cc, cs, rfl, hl, HCL.out, (HF.out.row rfl).2, HA.out, kpn HF.out.kp⟩
        · go_wp2_with fail
          refine (pick_any 9 (by omega) HV3.out.cur (by omega)).mono ?_
          rintro e w4 ⟨r, rfl, hr0, hr1, hc4, hk4⟩
          have v4 := HV3.out.pass (by omega) hk4 hc4
          have c0 : w4.cell? ⟨g, 0, none⟩ = some (.int .i64 (cs.getD 0 0)) := by rw [v4.own.cellAt 0 (by omega), ints_get cs 0 h0]
          have f0 := v4.own.frozenAt 0
          obtain ⟨st1, st2⟩ := v4.own.stored 0 (.int .i64 (r - 1))
          rw [ints_set] at st1
          have HK5 := hide (v4.kp.setNew hgb 0 (.int .i64 (r - 1)))
          have HCu := hide (v4.cur.low (B := w1.heap.size) (w' := w4.setCell ⟨g, 0, none⟩ (.int .i64 (r - 1))) ((Below.refl _ _).setCell hgb _) (by omega) HO.out)
          have HST := hide st1
          clear hc4 hk4 v4 st1 st2 HV3
          generalize cs.getD 0 0 = y0 at *
          go_wp2_with fail
          have HF := hide (HL.out.pass (by rw [World.size_alloc]; omega) HK5.out HCu.out)
          have HA := hide (arow_owns (xs := cs.set 0 (r - 1)) (by simp) HST.out)
          refine bodyPost_ret (v := .tuple #[.slice ao L.length C, .slice (some ⟨g, 0, none⟩) cs.length cc]) (by simp [results, Try.results15, go_sem]) rfl ?_
          exact ⟨ao, C, L, _, cc, cs.set 0 (r - 1), by simp, hl, by simpa using HCL.out, (HF.out.row rfl).2, HA.out, kpn HF.out.kp⟩
      · have l0 : ¬ (0 : Int) < (cs.length : Int) := by omega
        have HF := hide (HL.out.pass (by rw [World.size_alloc]; omega) HVe.out.kp HVe.out.cur)
        have HCS := hide (show cs = [] from List.length_eq_zero_iff.1 (by omega))
        go_wp2_with fail
        refine bodyPost_ret (v := .tuple #[.slice ao L.length C, .slice ac cs.length cc]) (by simp [results, Try.results15, go_sem]) rfl ?_
        exact ⟨ao, C, L, ac, cc, cs, rfl, hl, HCL.out, (HF.out.row rfl).2, Or.inl HCS.out, kpn HF.out.kp⟩
end Go.Proofs.Ytdlpbemjbmgbeaa
