/-
  What ValueOf of the program and of the model answer.
-/
import Derived.Test.YtdlpbemjbmgbeaaCf
namespace Go.Proofs.Ytdlpbemjbmgbeaa
open Go.RowKit

theorem valB_bad {L : List (List Int)} {cs : List Int} (h : Of.offersB L = false) : Of.valB L cs = false := by simp [Of.valB, h]
theorem valB_ne {L : List (List Int)} {cs : List Int} (h : cs.length ≠ L.length) : Of.valB L cs = false := by simp [Of.valB, h]
def vaI (L : List (List Int)) (cs : List Int) : Int := if Of.valB L cs then Of.valS L cs L.length else 0
theorem vaI_no {L : List (List Int)} {cs : List Int} (h : Of.valB L cs = false) : vaI L cs = 0 := by simp [vaI, h]
theorem vaI_yes {L : List (List Int)} {cs : List Int} (h : Of.valB L cs = true) : vaI L cs = Of.valS L cs L.length := by simp [vaI, h]

set_option maxRecDepth 100000 in
set_option maxHeartbeats 1000000 in
theorem va_bad {a b : Option Addr} {n c m d : Nat} {L : List (List Int)} {w : World} (hn : L.length = n) (h : ORow w a L) (hg : Of.offersB L = false ∨ m ≠ n) :
    Calls Try.prog 13 #[.slice a n c, .slice b m d] w fun e w' => e = .returned (.tuple #[.int .i64 0, .bool false]) ∧ Below w.heap.size w w' := by
  have HC := hide (gof_any (c := c) hn h)
  clear h hn
  cases ho : Of.offersB L
  · rw [ho] at HC
    clear ho hg
    go_enter Try.func13, Try.ntmps13
    go_wp2_with ((go_at_call 11; refine HC.out.mono ?_; rintro e w1 ⟨rfl, hb1⟩))
    go_ret2
    exact ⟨rfl, hb1⟩
  · rw [ho] at HC hg
    have hne : ((m : Int) != (n : Int)) = true := by
      rcases hg with h | h
      · cases h
      · simp; omega
    clear ho hg
    go_enter Try.func13, Try.ntmps13
    go_wp2_with ((go_at_call 11; refine HC.out.mono ?_; rintro e w1 ⟨rfl, hb1⟩))
    go_ret2
    exact ⟨rfl, hb1⟩
set_option maxRecDepth 100000 in
set_option maxHeartbeats 4000000 in
theorem va_some {a b : Option Addr} {n c d : Nat} {L : List (List Int)} {cs : List Int} {w : World} (hn : L.length = n) (hm : cs.length = n) (h : ORow w a L) (hb : ARow w b cs) (hg : Of.offersB L = true) :
    Calls Try.prog 13 #[.slice a n c, .slice b n d] w fun e w' => e = .returned (.tuple #[.int .i64 (vaI L cs), .bool (Of.valB L cs)]) ∧ Below w.heap.size w w' := by
  have HC := hide (gof_any (c := c) hn h)
  rw [hg] at HC
  have H := hide h
  have HN := hide hn
  have HR := hide hb
  have HM := hide hm
  have HG := hide hg
  have h12 := Of.offersB_len HG.out
  rw [hn] at h12
  have hne : ((n : Int) != (n : Int)) = false := by simp
  clear h hn hb hm hg
  go_enter Try.func13, Try.ntmps13
  go_wp2_with ((go_at_call 11; refine HC.out.mono ?_; rintro e w1 ⟨rfl, hb1⟩))
  clear HC
  go_loopw [4, 5, 6, 7, 8, 9, 22] (fun s4 s5 s6 _ _ _ s wr => ∃ (k : Nat) (q : Int), s4 = .int .i64 0 ∧ s5 = .bool false ∧ s6 = .int .i64 q ∧ s = .int .i64 k ∧ k ≤ n ∧ Hid (q = Of.valS L cs k) ∧ -1000 * (k : Int) ≤ q ∧ q ≤ 1000 * k ∧ Hid (∀ i, i < k → Pf.inB (cs.getD i 0) 0 (L.getD i []).length = true) ∧ Hid (Below w.heap.size w wr)) (fun _ _ _ _ _ _ s _ => n - (intOf s).toNat)
  case atStart => exact ⟨0, 0, rfl, rfl, rfl, rfl, Nat.zero_le _, hide rfl, by omega, by omega, hide fun i hi => absurd hi (Nat.not_lt_zero _), hide hb1⟩
  case round =>
    obtain ⟨k, q, rfl, rfl, rfl, rfl, hk, HQ, q0, q1, HI, HB⟩ := hrel
    by_cases hlt : k < n
    · obtain ⟨b1, off, ai, ci, rfl, hb, r1, R1⟩ := (H.out.below HB.out).at (i := k) (by rw [HN.out]; exact hlt)
      obtain ⟨b2, off2, rfl, r2⟩ := (HR.out.below HB.out).at (i := k) (by rw [HM.out]; exact hlt)
      have i0' : (0 : Int) ≤ (k : Int) := by omega
      have i1' : (k : Int) < (n : Int) := by omega
      have ho := Of.offersB_at HG.out k
      have hm6 := (Of.offB_yes ho).1
      obtain ⟨N, hN⟩ : ∃ N, (L.getD k []).length + 1 = N := ⟨_, rfl⟩
      have HC := hide (gbc_any (c := ci) rfl hN (by omega) R1)
      have HL : Hid ((0 :: L.getD k []).length = N) := hide (by rw [List.length_cons]; exact hN)
      have HBD := hide fun i => Of.gain_bd ho i
      have HV : Hid (Of.valS L cs (k + 1) = q + Of.gain (L.getD k []) (cs.getD k 0).toNat) := hide (by rw [HQ.out]; rfl)
      have HNO : Hid (Pf.inB (cs.getD k 0) 0 (L.getD k []).length = false → Of.valB L cs = false) := hide fun h => Of.valB_not (by rw [HN.out]; exact hlt) h
      have HYS : Hid (Pf.inB (cs.getD k 0) 0 (L.getD k []).length = true → ∀ i, i < k + 1 → Pf.inB (cs.getD i 0) 0 (L.getD i []).length = true) := hide fun h i hi => by
        by_cases e : i = k
        · subst e; exact h
        · exact HI.out i (by omega)
      have HGN : Hid (∀ j, (0 :: L.getD k []).getD j 0 = Of.gain (L.getD k []) j) := hide fun j => rfl
      generalize hoo : L.getD k [] = o at *
      generalize hx : cs.getD k 0 = x at *
      generalize hmm : o.length = m at *
      have e1 : Hid ((N : Int) - 1 = (m : Int)) := hide (by omega)
      clear R1 ho HI hoo hx
      go_wp2_with fail
      refine HC.out.mono ?_
      rintro e w2 ⟨g, cap, rfl, own2, hb2⟩
      have HB2 := hide (HB.out.trans (hb2.mono HB.out.size))
      have HO2 := hide own2
      clear own2 hb2
      cases hin : Pf.inB x 0 (m : Int)
      · have HF := hide (HNO.out hin)
        rw [← e1.out] at hin
        go_wp2_with ((go_at_call 38; refine (between_eq hin).mono ?_; rintro e w3 ⟨rfl, rfl⟩))
        go_ret2
        exact ⟨by rw [HF.out, vaI_no HF.out]; rfl, HB2.out⟩
      · have HF := hide (HYS.out hin)
        obtain ⟨x0, x1⟩ := Pf.inB_yes hin
        obtain ⟨j, hj⟩ : ∃ j : Nat, x = (j : Int) := ⟨x.toNat, by omega⟩
        subst hj
        have c3 : w2.cell? ⟨g, j, none⟩ = some (.int .i64 (Of.gain o j)) := by
          rw [HO2.out.cellAt j (by omega), ints_get (0 :: o) j (by rw [HL.out]; omega), HGN.out j]
        have hbd := HBD.out j
        have HVV := HV.out
        rw [Int.toNat_natCast] at HVV
        have HV2 := hide HVV
        have j1 : (j : Int) < (N : Int) := by omega
        generalize Of.gain o j = y at *
        obtain ⟨y0, y1⟩ := hbd
        rw [← e1.out] at hin
        clear HVV
        go_wp2_with ((go_at_call 38; refine (between_eq hin).mono ?_; rintro e w3 ⟨rfl, rfl⟩))
        go_roundw
        case rel => exact ⟨k + 1, q + y, rfl, rfl, by go_num, by go_num, by omega, hide HV2.out.symm, by omega, by omega, HF, HB2⟩
        case measure => simp only [intOf]; omega
    · have hke : k = n := by omega
      have HV := hide (Of.valB_of HG.out (by rw [HM.out, HN.out]) (fun i hi => HI.out i (by rw [hke, ← HN.out]; exact hi)))
      have HE : Hid (vaI L cs = q) := hide (by rw [vaI_yes HV.out, HN.out, ← hke]; exact HQ.out.symm)
      clear hke
      go_wp2_with fail
      go_ret2
      exact ⟨by rw [HE.out, HV.out]; rfl, HB.out⟩
theorem va_w {a b : Option Addr} {n c m d : Nat} {L : List (List Int)} {cs : List Int} {w : World} (hn : L.length = n) (hm : cs.length = m) (h : ORow w a L) (hb : ARow w b cs) :
    Calls Try.prog 13 #[.slice a n c, .slice b m d] w fun e w' => e = .returned (.tuple #[.int .i64 (vaI L cs), .bool (Of.valB L cs)]) ∧ Below w.heap.size w w' := by
  by_cases e : m = n
  · cases hg : Of.offersB L
    · rw [vaI_no (valB_bad hg), valB_bad hg]; exact va_bad hn h (Or.inl hg)
    · subst e; exact va_some hn hm h hb hg
  · rw [vaI_no (valB_ne (by omega)), valB_ne (by omega)]; exact va_bad hn h (Or.inr e)

set_option maxRecDepth 100000 in
set_option maxHeartbeats 1000000 in
theorem sva_bad {a b : Option Addr} {n c m d : Nat} {L : List (List Int)} {w : World} (hn : L.length = n) (hl : n ≤ 1048576) (h : ORow w a L) (hg : Of.offersB L = false ∨ m ≠ n) :
    Calls Try.prog 16 #[.slice a n c, .slice b m d] w fun e w' => e = .returned (.tuple #[.int .i64 0, .bool false]) ∧ Below w.heap.size w w' := by
  have HC := hide (sgof_any (c := c) hn hl h)
  clear h hn
  cases ho : Of.offersB L
  · rw [ho] at HC
    clear ho hg
    go_enter Try.func16, Try.ntmps16
    go_wp2_with ((go_at_call 12; refine HC.out.mono ?_; rintro e w1 ⟨rfl, hb1⟩))
    go_ret2
    exact ⟨rfl, hb1⟩
  · rw [ho] at HC hg
    have hne : ((m : Int) != (n : Int)) = true := by
      rcases hg with h | h
      · cases h
      · simp; omega
    clear ho hg
    go_enter Try.func16, Try.ntmps16
    go_wp2_with ((go_at_call 12; refine HC.out.mono ?_; rintro e w1 ⟨rfl, hb1⟩))
    go_ret2
    exact ⟨rfl, hb1⟩
set_option maxRecDepth 100000 in
set_option maxHeartbeats 4000000 in
theorem sva_some {a b : Option Addr} {n c d : Nat} {L : List (List Int)} {cs : List Int} {w : World} (hn : L.length = n) (hm : cs.length = n) (h : ORow w a L) (hb : ARow w b cs) (hg : Of.offersB L = true) :
    Calls Try.prog 16 #[.slice a n c, .slice b n d] w fun e w' => e = .returned (.tuple #[.int .i64 (vaI L cs), .bool (Of.valB L cs)]) ∧ Below w.heap.size w w' := by
  have h12 := Of.offersB_len hg
  rw [hn] at h12
  have HC := hide (sgof_any (c := c) hn (by omega) h)
  rw [hg] at HC
  have H := hide h
  have HN := hide hn
  have HR := hide hb
  have HM := hide hm
  have HG := hide hg
  have hne : ((n : Int) != (n : Int)) = false := by simp
  clear h hn hb hm hg
  go_enter Try.func16, Try.ntmps16
  go_wp2_with ((go_at_call 12; refine HC.out.mono ?_; rintro e w1 ⟨rfl, hb1⟩))
  clear HC
  go_loopw [4, 5, 6, 7, 8, 21] (fun s4 s5 s6 _ _ s wr => ∃ (k : Nat) (q : Int), s4 = .int .i64 0 ∧ s5 = .bool false ∧ s6 = .int .i64 q ∧ s = .int .i64 k ∧ k ≤ n ∧ Hid (q = Of.valS L cs k) ∧ -1000 * (k : Int) ≤ q ∧ q ≤ 1000 * k ∧ Hid (∀ i, i < k → Pf.inB (cs.getD i 0) 0 (L.getD i []).length = true) ∧ Hid (Below w.heap.size w wr)) (fun _ _ _ _ _ s _ => n - (intOf s).toNat)
  case atStart => exact ⟨0, 0, rfl, rfl, rfl, rfl, Nat.zero_le _, hide rfl, by omega, by omega, hide fun i hi => absurd hi (Nat.not_lt_zero _), hide hb1⟩
  case round =>
    obtain ⟨k, q, rfl, rfl, rfl, rfl, hk, HQ, q0, q1, HI, HB⟩ := hrel
    by_cases hlt : k < n
    · obtain ⟨b1, off, ai, ci, rfl, hb, r1, R1⟩ := (H.out.below HB.out).at (i := k) (by rw [HN.out]; exact hlt)
      obtain ⟨b2, off2, rfl, r2⟩ := (HR.out.below HB.out).at (i := k) (by rw [HM.out]; exact hlt)
      have i0' : (0 : Int) ≤ (k : Int) := by omega
      have i1' : (k : Int) < (n : Int) := by omega
      have ho := Of.offersB_at HG.out k
      have hm6 := (Of.offB_yes ho).1
      have HC := hide fun (j : Nat) (hj : j ≤ (L.getD k []).length) => gn_any (c := ci) (k := j) rfl hj (by omega) R1
      have HBD := hide fun i => Of.gain_bd ho i
      have HV : Hid (Of.valS L cs (k + 1) = q + Of.gain (L.getD k []) (cs.getD k 0).toNat) := hide (by rw [HQ.out]; rfl)
      have HNO : Hid (Pf.inB (cs.getD k 0) 0 (L.getD k []).length = false → Of.valB L cs = false) := hide fun h => Of.valB_not (by rw [HN.out]; exact hlt) h
      have HYS : Hid (Pf.inB (cs.getD k 0) 0 (L.getD k []).length = true → ∀ i, i < k + 1 → Pf.inB (cs.getD i 0) 0 (L.getD i []).length = true) := hide fun h i hi => by
        by_cases e : i = k
        · subst e; exact h
        · exact HI.out i (by omega)
      generalize hoo : L.getD k [] = o at *
      generalize hx : cs.getD k 0 = x at *
      generalize hmm : o.length = m at *
      clear R1 ho HI hoo hx
      cases hin : Pf.inB x 0 (m : Int)
      · have HF := hide (HNO.out hin)
        go_wp2_with ((go_at_call 42; refine (in_eq hin).mono ?_; rintro e w3 ⟨rfl, rfl⟩))
        go_ret2
        exact ⟨by rw [HF.out, vaI_no HF.out]; rfl, HB.out⟩
      · have HF := hide (HYS.out hin)
        obtain ⟨x0, x1⟩ := Pf.inB_yes hin
        obtain ⟨j, hj⟩ : ∃ j : Nat, x = (j : Int) := ⟨x.toNat, by omega⟩
        subst hj
        have HJ := hide (HC.out j (by omega))
        have hbd := HBD.out j
        have HVV := HV.out
        rw [Int.toNat_natCast] at HVV
        have HV2 := hide HVV
        generalize Of.gain o j = y at *
        obtain ⟨y0, y1⟩ := hbd
        clear HVV
        go_wp2_with (first | (go_at_call 42; refine (in_eq hin).mono ?_; rintro e w3 ⟨rfl, rfl⟩) | (go_at_call 34; refine HJ.out.mono ?_; rintro e w4 ⟨rfl, hb4⟩))
        have HB2 := hide (HB.out.trans (hb4.mono HB.out.size))
        go_roundw
        case rel => exact ⟨k + 1, q + y, rfl, rfl, by go_num, by go_num, by omega, hide HV2.out.symm, by omega, by omega, HF, HB2⟩
        case measure => simp only [intOf]; omega
    · have hke : k = n := by omega
      have HV := hide (Of.valB_of HG.out (by rw [HM.out, HN.out]) (fun i hi => HI.out i (by rw [hke, ← HN.out]; exact hi)))
      have HE : Hid (vaI L cs = q) := hide (by rw [vaI_yes HV.out, HN.out, ← hke]; exact HQ.out.symm)
      clear hke
      go_wp2_with fail
      go_ret2
      exact ⟨by rw [HE.out, HV.out]; rfl, HB.out⟩
theorem sva_w {a b : Option Addr} {n c m d : Nat} {L : List (List Int)} {cs : List Int} {w : World} (hn : L.length = n) (hm : cs.length = m) (hl : n ≤ 1048576) (h : ORow w a L) (hb : ARow w b cs) :
    Calls Try.prog 16 #[.slice a n c, .slice b m d] w fun e w' => e = .returned (.tuple #[.int .i64 (vaI L cs), .bool (Of.valB L cs)]) ∧ Below w.heap.size w w' := by
  by_cases e : m = n
  · cases hg : Of.offersB L
    · rw [vaI_no (valB_bad hg), valB_bad hg]; exact sva_bad hn hl h (Or.inl hg)
    · subst e; exact sva_some hn hm h hb hg
  · rw [vaI_no (valB_ne (by omega)), valB_ne (by omega)]; exact sva_bad hn hl h (Or.inr e)
end Go.Proofs.Ytdlpbemjbmgbeaa
