/-
  The least costs, of the model; CostTable of both.
-/
import Derived.Test.YticekgjgknfloaaAl14
namespace Go.Proofs.Yticekgjgknfloaa
namespace Lo
open Lt
theorem min_cu {S K : Int} {nd : List Int} {t d : Nat} (h1 : 1 ≤ d) (hd : d < t) : minTo (fn (cuL S K nd t)) (d + 1 - 1) = if at_ S K (fn nd) t d < minTo (fn (cuL S K nd t)) (d - 1) then at_ S K (fn nd) t d else minTo (fn (cuL S K nd t)) (d - 1) := by
  obtain ⟨m, rfl⟩ : ∃ m, d = m + 1 := ⟨d - 1, by omega⟩
  simp only [Nat.add_sub_cancel]
  rw [minTo, show fn (cuL S K nd t) (m + 1) = at_ S K (fn nd) t (m + 1) from cuL_at hd]
theorem min_cu0 {S K : Int} {nd : List Int} {t : Nat} (h : 1 ≤ t) : minTo (fn (cuL S K nd t)) (1 - 1) = one S K (fn nd) 0 t := by
  show fn (cuL S K nd t) 0 = _
  rw [show fn (cuL S K nd t) 0 = at_ S K (fn nd) t 0 from cuL_at h, at_, T_zero]; omega
end Lo
open Go.RowKit
theorem so14_z {a : Option Addr} {n c t : Nat} {S K : Int} {nd : List Int} {w : World} (s0 : 0 ≤ S) (s1 : S ≤ 100) (k0 : 0 ≤ K) (k1 : K ≤ 10) (HN : Hid (nd.length = n)) (hn : n ≤ 10) (ht : t ≤ n) (HA : Hid (ARow w a nd)) (hb : Pf.allB nd 0 20 = true) :
    Calls Try.prog 40 #[.agg #[.slice a n c, .int .i64 S, .int .i64 K], .int .i64 0, .int .i64 (t : Int)] w fun e w' => e = .returned (.int .i64 (Lt.one S K (Lo.fn nd) 0 t)) ∧ Below w.heap.size w w' := so14_any (d := 0) s0 s1 k0 k1 HN hn (Nat.zero_le _) ht HA hb
set_option maxHeartbeats 8000000 in
theorem slt14_any {a : Option Addr} {n c : Nat} {S K : Int} {nd : List Int} {w : World} (s0 : 0 ≤ S) (s1 : S ≤ 100) (k0 : 0 ≤ K) (k1 : K ≤ 10) (HN : Hid (nd.length = n)) (hn : n ≤ 10) (HA : Hid (ARow w a nd)) (hb : Pf.allB nd 0 20 = true) :
    Calls Try.prog 39 #[.agg #[.slice a n c, .int .i64 S, .int .i64 K]] w fun e w' => ∃ b cb, e = .returned (.slice (some ⟨b, 0, none⟩) (n + 1) cb) ∧ Below w.heap.size w w' ∧ AV w' w.heap.size w'.heap.size (.slice (some ⟨b, 0, none⟩) (n + 1) cb) (n + 1) (Lt.tab S K (Lo.fn nd) n) := by
  have hB0 := below_new w (.cells #[.slice a n c, .int .i64 S, .int .i64 K] 27)
  have pb0 := TBox.new w (.slice a n c) (.int .i64 S) (.int .i64 K) 27
  obtain ⟨w0, hw0⟩ : ∃ W, W = w.alloc (.cells #[.slice a n c, .int .i64 S, .int .i64 K] 27) := ⟨_, rfl⟩
  rw [← hw0] at hB0 pb0
  have HW0 := hide hw0.symm
  obtain ⟨B, hB⟩ : ∃ b, b = w.heap.size := ⟨_, rfl⟩
  rw [← hB] at pb0
  have HBe := hide hB.symm
  have PB := hide pb0
  have R0 := hide (HA.out.below hB0)
  have HB0 := hide hB0
  have HLIT := hide (show (w0.alloc (.cells #[.int .i64 0] 3)).ownsRow w0.heap.size 3 1 (.slice (some ⟨w0.heap.size, 0, none⟩) 1 1) 1 (ints (Lt.tab S K (Lo.fn nd) 0)) from by
    have h := World.ownsRow_lit (base := w0.heap.size) (e := 3) (size := 1) w0 #[.int .i64 0] 1 (Nat.le_refl _) (by unfold maxLen; omega) (by simp)
    exact h)
  have HTL : Hid (∀ t, (Lt.tab S K (Lo.fn nd) t).length = t + 1) := hide (Lt.tab_len S K (Lo.fn nd))
  have HP : ∀ i, i < n → 0 ≤ Lo.fn nd i ∧ Lo.fn nd i ≤ 20 := fun k hk => Pf.inB_yes (Pf.allB_get hb (show k < nd.length by rw [HN.out]; exact hk))
  have HTB := hide fun (d : Nat) (hd : d ≤ n) => Lo.T_bd hn s0 s1 k0 k1 HP d hd
  have HOB := hide fun (d t : Nat) (ht : t ≤ n) => Lo.one_bd hn s0 s1 k0 k1 HP (d := d) ht
  have HOne := hide fun (W : World) (h : Below w0.heap.size w0 W) (d t : Nat) (h1 : d ≤ t) (ht : t ≤ n) => so14_any (w := W) (c := c) (d := d) (t := t) s0 s1 k0 k1 HN hn h1 ht (hide (R0.out.below h)) hb
  have HOne0 := hide fun (W : World) (h : Below w0.heap.size w0 W) (t : Nat) (ht : t ≤ n) => so14_z (w := W) (c := c) (t := t) s0 s1 k0 k1 HN hn ht (hide (R0.out.below h)) hb
  have hBw : w.heap.size ≤ w0.heap.size := HB0.out.size
  have HST : Hid (∀ W1 W2, Below w0.heap.size w0 W1 → Below W1.heap.size W1 W2 → W2.cell? ⟨B, 0, none⟩ = some (.slice a n c) ∧ W2.cell? ⟨B, 1, none⟩ = some (.int .i64 S) ∧ W2.cell? ⟨B, 2, none⟩ = some (.int .i64 K) ∧ Below w0.heap.size w0 W2) := hide fun W1 W2 h1 h2 => by
    have h := h1.trans (h2.mono h1.size)
    obtain ⟨x0, x1, x2, _⟩ := PB.out.below h
    exact ⟨x0, x1, x2, h⟩
  clear hw0 hB pb0 hB0 HA hb s0 s1 k0 k1 HP
  go_enter Try.func39, Try.ntmps39
  go_upto_region 1 with fail
  rw [HW0.out, HBe.out]
  clear HW0 HBe
  go_wp2_with fail
  go_loopw [3, 4, 5, 6, 7] (fun s3 s _ _ _ wr => ∃ (t : Nat), s = .int .i64 t ∧ 1 ≤ t ∧ t ≤ n + 1 ∧ Hid (wr.ownsRow w0.heap.size 3 1 s3 t (ints (Lt.tab S K (Lo.fn nd) (t - 1)))) ∧ Hid (Below w0.heap.size w0 wr)) (fun _ s _ _ _ _ => n + 1 - (intOf s).toNat)
  case atStart => exact ⟨1, rfl, Nat.le_refl _, by omega, HLIT, hide (below_new _ _)⟩
  case round =>
    clear HLIT
    obtain ⟨t, rfl, ht1, htn, HO, HB⟩ := hrel
    obtain ⟨p0, p1, p2, _⟩ := PB.out.below HB.out
    obtain ⟨bT, cT, rfl, hcT, rT⟩ := own_at14 (by rw [HTL.out]; omega) HO.out ht1
    clear rT
    by_cases hlt : t ≤ n
    · have i1 : (t : Int) ≤ (n : Int) := by omega
      have HSTEP := hide (Lo.tab_step (S := S) (K := K) (nd := nd) (t := t) (by omega))
      have HMI := hide fun (d : Nat) (h1 : 1 ≤ d) (hd : d < t) => Lo.min_cu (S := S) (K := K) (nd := nd) h1 hd
      have HM0 := hide (Lo.min_cu0 (S := S) (K := K) (nd := nd) ht1)
      go_wp2_with fail
      refine (HOne0.out _ HB.out t hlt).mono ?_
      rintro e w3 ⟨rfl, hb3⟩
      have HB3 := hide (HB.out.trans (hb3.mono HB.out.size))
      have HO3 := hide (own_below HO.out hb3)
      clear hb3 HO p0 p1 p2
      rw [← HM0.out]
      go_wp2_with fail
      go_loopw [5, 6, 7] (fun s5 s6 _ wr => ∃ (d : Nat) (x : Int), s5 = .int .i64 x ∧ s6 = .int .i64 d ∧ 1 ≤ d ∧ d ≤ t ∧ Hid (x = Lt.minTo (Lo.fn (Lo.cuL S K nd t)) (d - 1)) ∧ Hid (Below w3.heap.size w3 wr)) (fun _ s6 _ _ => t - (intOf s6).toNat)
      case atStart => exact ⟨1, _, rfl, rfl, Nat.le_refl _, ht1, hide rfl, hide (Below.refl _ _)⟩
      case round =>
        obtain ⟨d, x, rfl, rfl, hd1, hdt, HX, HBd⟩ := hrel
        have HU := hide (HB3.out.trans (HBd.out.mono HB3.out.size))
        have HOd := hide (own_below HO3.out HBd.out)
        by_cases hlt2 : d < t
        · have j0 : (0 : Int) ≤ (d : Int) := by omega
          have j1 : (d : Int) < (t : Int) := by omega
          have HR2 : Hid (∀ W, Below w3.heap.size w3 W → W.cell? ⟨bT, d, none⟩ = some (.int .i64 (Lt.T S K (Lo.fn nd) d))) := hide fun W h => by
            have ho := own_below HO3.out h
            rw [ho.cellAt _ (by omega), ints_get _ _ (by rw [HTL.out]; omega), Lo.tab_at (by omega)]
          have HMd := hide (HMI.out d hd1 hlt2)
          rw [← HX.out] at HMd
          obtain ⟨u0, u1⟩ := HTB.out d (by omega)
          obtain ⟨v0, v1⟩ := HOB.out d t hlt
          have HAT : Hid (Lo.at_ S K (Lo.fn nd) t d = Lt.T S K (Lo.fn nd) d + Lt.one S K (Lo.fn nd) d t) := hide rfl
          rw [HAT.out] at HMd
          have HOd2 := hide fun (W : World) (h : Below w0.heap.size w0 W) => HOne.out W h d t hdt hlt
          generalize Lt.T S K (Lo.fn nd) d = X at *
          generalize Lt.one S K (Lo.fn nd) d t = Y at *
          have e1 : IntKind.i64.wrap (X + Y) = X + Y := by rw [IntKind.wrap_i64]; omega
          have HSS : Hid (∀ W1 W2, Below w3.heap.size w3 W1 → Below W1.heap.size W1 W2 → W2.cell? ⟨B, 0, none⟩ = some (.slice a n c) ∧ W2.cell? ⟨B, 1, none⟩ = some (.int .i64 S) ∧ W2.cell? ⟨B, 2, none⟩ = some (.int .i64 K) ∧ W2.cell? ⟨bT, d, none⟩ = some (.int .i64 X) ∧ Below w3.heap.size w3 W2) := hide fun W1 W2 h1 h2 => by
            have h := h1.trans (h2.mono h1.size)
            obtain ⟨x0, x1, x2, _⟩ := PB.out.below (HB3.out.trans (h.mono HB3.out.size))
            exact ⟨x0, x1, x2, HR2.out _ h, h⟩
          have hS0 := HSS.out wr wr.drew HBd.out (Below.refl _ _).drew
          have HQ : Hid (∀ W, Below w3.heap.size w3 W → Below w0.heap.size w0 W) := hide fun W h => HB3.out.trans (h.mono HB3.out.size)
          go_wp2_with fail
          go_region_held3 (fun w' => w'.cell? ⟨B, 0, none⟩ = some (.slice a n c) ∧ w'.cell? ⟨B, 1, none⟩ = some (.int .i64 S) ∧ w'.cell? ⟨B, 2, none⟩ = some (.int .i64 K) ∧ w'.cell? ⟨bT, d, none⟩ = some (.int .i64 X) ∧ Below w3.heap.size w3 w')
            (first | exact hS0 | assumption | fail)
            (first
            | (go_at_call 40; obtain ⟨_, _, _, _, hbS⟩ := ‹_ ∧ _ ∧ _ ∧ _ ∧ _›; refine (HOd2.out _ (HQ.out _ hbS)).mono ?_; rintro e w4 ⟨rfl, hb4⟩; have hS4 := HSS.out _ _ hbS hb4)
            | fail)
          obtain ⟨_, _, _, _, hbE⟩ := ‹_ ∧ _ ∧ _ ∧ _ ∧ _›
          have HBE := hide hbE
          clear hbE hb4 hbS hS4 hS0
          by_cases hxy : X + Y < x
          · rw [if_pos hxy] at HMd
            go_wp2_with fail
            go_roundw
            case rel => exact ⟨d + 1, X + Y, rfl, by go_num, by omega, by omega, hide HMd.out.symm, HBE⟩
            case measure => simp only [intOf]; omega
          · rw [if_neg hxy] at HMd
            go_wp2_with fail
            go_roundw
            case rel => exact ⟨d + 1, x, rfl, by go_num, by omega, by omega, hide HMd.out.symm, HBE⟩
            case measure => simp only [intOf]; omega
        · have hke : d = t := by omega
          subst hke
          obtain ⟨v', w', hr, own', hg⟩ := push_int (x := x) HOd.out (by omega) HU.out.size
          have HO' : Hid (w'.ownsRow w0.heap.size 3 1 v' (d + 1) (ints (Lt.tab S K (Lo.fn nd) (d + 1 - 1)))) := hide (by rw [Nat.add_sub_cancel, HSTEP.out, ints_snoc, ← HX.out]; exact own')
          have HB' := hide (HU.out.trans (grown_under' hg HOd.out (Nat.le_refl _) HU.out.size))
          clear own' hg HOd
          go_wp2_with (first | (at_builtin; refine Lib.wpList_append_run _ rfl _ _ _ _ rfl _ _ rfl rfl _ _ (hr _) ?_))
          go_roundw
          case rel => exact ⟨d + 1, by go_num, by omega, by omega, HO', HB'⟩
          case measure => simp only [intOf]; omega
    · have hke : t = n + 1 := by omega
      subst hke
      have HBB := hide (HB0.out.trans (HB.out.mono HB0.out.size))
      have j1 : ¬ (n : Int) + 1 ≤ (n : Int) := by omega
      go_wp2_with fail
      go_ret
      exact ⟨bT, cT, rfl, HBB.out, owns_low HO.out hBw, fun g hg => (HO.out.lt g hg).2, Nat.le_refl _⟩
end Go.Proofs.Yticekgjgknfloaa
