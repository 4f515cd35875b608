/-
  What the model's seek does.
-/
import Derived.Test.YtcniegaogdggaaaWp
import Derived.Test.YtcniegaogdggaaaWo0
import Derived.Test.YtcniegaogdggaaaKp
import Derived.BigQuiet
namespace Go.Proofs.Ytcniegaogdggaaa
open Go.RowKit

theorem tabB_zero (n : Nat) : tabB n (fun _ => false) = List.replicate n false := by
  apply List.ext_getElem
  · simp [tabB]
  · intro i h1 h2; simp [tabB]
theorem drewN0 (w : World) : w.drewN 0 = w := rfl
theorem int_at {w : World} {a : Addr} {x : Int} (h : w.cell? a = some (.int .i64 x)) : ∃ y, w.cell? a = some (.int .i64 y) := ⟨x, h⟩
theorem S6.cr {w0 w wr : World} {M : Nat} {e : Option Addr} {n ce cap PU PV OW LS FR GN : Nat} {u v o ls fr : Hu.Fn} {gn : Nat → Bool} {C : List (List Int)} (h : S6 w wr w0.heap.size M e n ce cap PU PV OW LS FR GN u v o ls fr gn) (hc : CRow w0 e C) (hb : Below w0.heap.size w0 w) : CRow wr e C :=
  hc.below (h.off.under hb (h.ow.lt OW rfl).1 (h.pu.lt PU rfl).1 (h.pv.lt PV rfl).1)
theorem S6.draws {w wr : World} {bs M : Nat} {e : Option Addr} {n ce cap PU PV OW LS FR GN : Nat} {u v o ls fr : Hu.Fn} {gn : Nat → Bool} (h : S6 w wr bs M e n ce cap PU PV OW LS FR GN u v o ls fr gn) (d : Nat) : S6 w (wr.drewN d) bs M e n ce cap PU PV OW LS FR GN u v o ls fr gn :=
  have hd := below_drewN (Below.refl wr.heap.size wr) d
  ⟨h.m0, h.m1, h.m2, h.m3, g_own h.pu hd, g_own h.pv hd, g_own h.ow hd, g_own h.ls hd, g_own h.fr hd, g_own h.gn hd, h.nd, h.off.below hd h.off.size, h.ml⟩
theorem cr_cell {w : World} {bc oc n i : Nat} {C : List (List Int)} (hg : Hu.costB C = true) (hl : C.length = n) (hi : i < n) (h : CRow w (some ⟨bc, oc, none⟩) C) : ∃ rb ro ci, w.cell? ⟨bc, oc + i, none⟩ = some (.slice (some ⟨rb, ro, none⟩) n ci) ∧ ∀ b, b < n → w.cell? ⟨rb, ro + b, none⟩ = some (.int .i64 (Hu.ct C i b)) := by
  obtain ⟨b, o, ai, ci, e, _, h1, h2⟩ := h.at (show i < C.length by omega)
  cases e
  have hrl := (Hu.costB_row hg (show i < C.length by omega)).1.trans hl
  rw [hrl] at h1
  rcases h2 with h2 | ⟨rb, ro, rfl, _, h3⟩
  · rw [h2] at hrl; simp at hrl; omega
  · exact ⟨rb, ro, ci, h1, fun b hb => h3 b (by omega)⟩
set_option maxRecDepth 20000 in
set_option maxHeartbeats 8000000 in
theorem seek_any {e : Option Addr} {n ce cap M PU PV OW L : Nat} {C : List (List Int)} {T : Hu.Tri} {w0 w : World} (hg : Hu.costB C = true) (hl : C.length = n) (hL : L < n) (hT : Hu.Ou C n L T) (hG : Hu.Good C n) (hc : CRow w0 e C) (hb0 : Below w0.heap.size w0 w) (hnd : [M, PU, PV, OW].Nodup) (hM : M < w.heap.size)
    (m0 : w.cell? ⟨M, 0, none⟩ = some (.slice e n ce)) (m1 : w.cell? ⟨M, 1, none⟩ = some (.slice (some ⟨PU, 0, none⟩) n n)) (m2 : w.cell? ⟨M, 2, none⟩ = some (.slice (some ⟨PV, 0, none⟩) n n)) (m3 : w.cell? ⟨M, 3, none⟩ = some (.slice (some ⟨OW, 0, none⟩) n cap))
    (opu : w.ownsRow w0.heap.size 3 1 (.slice (some ⟨PU, 0, none⟩) n n) n (ints (Hu.tab n T.u))) (opv : w.ownsRow w0.heap.size 3 1 (.slice (some ⟨PV, 0, none⟩) n n) n (ints (Hu.tab n T.v))) (oow : w.ownsRow w0.heap.size 3 1 (.slice (some ⟨OW, 0, none⟩) n cap) n (ints (Hu.tab n T.o))) :
    Calls Try.prog 60 #[.pointer (some ⟨M, 0, none⟩), .int .i64 (L : Int)] w fun e w' => e = .returned (.tuple #[]) ∧ w'.ownsRow w0.heap.size 3 1 (.slice (some ⟨PU, 0, none⟩) n n) n (ints (Hu.tab n (Hu.seek C n L T).u)) ∧ w'.ownsRow w0.heap.size 3 1 (.slice (some ⟨PV, 0, none⟩) n n) n (ints (Hu.tab n (Hu.seek C n L T).v)) ∧ w'.ownsRow w0.heap.size 3 1 (.slice (some ⟨OW, 0, none⟩) n cap) n (ints (Hu.tab n (Hu.seek C n L T).o)) ∧ Off3 w w' OW PU PV := by
  have gl := Hu.costB_len hg
  rw [hl] at gl
  obtain ⟨n1', n10⟩ := gl
  obtain ⟨bc, oc, rfl⟩ : ∃ bc oc, e = some ⟨bc, oc, none⟩ := by
    rcases hc with h | ⟨bc, oc, h, _⟩
    · rw [h] at hl; simp at hl; omega
    · exact ⟨bc, oc, h⟩
  have hmi := makeI_run n (by omega)
  have hmb := makeB_run n (by omega)
  have lpu := (opu.lt PU rfl).2
  have lpv := (opv.lt PV rfl).2
  have low := (oow.lt OW rfl).2
  have bA := below_new w (.cells (madeCells #[.int .i64 0] n) 3)
  have oA := own_low9 (made_own w n (by omega)) (Nat.le_refl _)
  have sA : (w.alloc (.cells (madeCells #[.int .i64 0] n) 3)).heap.size = w.heap.size + 1 := World.size_alloc _ _
  obtain ⟨wA, hwA⟩ : ∃ wA, wA = w.alloc (.cells (madeCells #[.int .i64 0] n) 3) := ⟨_, rfl⟩
  rw [← hwA] at bA oA sA
  have bB := below_new wA (.cells (madeCells #[.int .i64 0] n) 3)
  have oB := own_low9 (made_own wA n (by omega)) (show w.heap.size ≤ wA.heap.size by omega)
  have sB : (wA.alloc (.cells (madeCells #[.int .i64 0] n) 3)).heap.size = w.heap.size + 1 + 1 := by rw [World.size_alloc, sA]
  obtain ⟨wB, hwB⟩ : ∃ wB, wB = wA.alloc (.cells (madeCells #[.int .i64 0] n) 3) := ⟨_, rfl⟩
  rw [← hwB] at bB oB sB
  have bD := below_new wB (.cells (madeCells #[.bool false] n) 4)
  have oD := own_low9 (madeB_own wB n (by omega)) (show w.heap.size ≤ wB.heap.size by omega)
  have sD : (wB.alloc (.cells (madeCells #[.bool false] n) 4)).heap.size = w.heap.size + 3 := by rw [World.size_alloc, sB]
  obtain ⟨wD, hwD⟩ : ∃ wD, wD = wB.alloc (.cells (madeCells #[.bool false] n) 4) := ⟨_, rfl⟩
  rw [← hwD] at bD oD sD
  rw [sB] at oD
  rw [sA] at oB
  have bAD := bA.trans ((bB.mono (by omega)).trans (bD.mono (by omega)))
  have HS0 : Hid (S6 w wD w0.heap.size M (some ⟨bc, oc, none⟩) n ce cap PU PV OW w.heap.size (w.heap.size + 1) (w.heap.size + 1 + 1) T.u T.v T.o (fun _ => 0) (fun _ => 0) (fun _ => false)) := hide
    ⟨(bAD.cell (p := ⟨M, 0, none⟩) hM).trans m0, (bAD.cell (p := ⟨M, 1, none⟩) hM).trans m1, (bAD.cell (p := ⟨M, 2, none⟩) hM).trans m2, (bAD.cell (p := ⟨M, 3, none⟩) hM).trans m3, g_own opu bAD, g_own opv bAD, g_own oow bAD, by rw [tab_zero]; exact g_own oA (bB.mono (by omega) |>.trans (bD.mono (by omega))), by rw [tab_zero]; exact g_own oB (bD.mono (by omega)), by rw [tabB_zero]; exact oD, by
      simp only [List.nodup_cons, List.mem_cons, List.not_mem_nil, or_false, not_or, List.nodup_nil, and_true, not_false_eq_true] at hnd ⊢
      omega, (Off3.refl w OW PU PV).below bAD (Nat.le_refl _), hM⟩
  have HWD := hide (show ((w.alloc (.cells (madeCells #[.int .i64 0] n) 3)).alloc (.cells (madeCells #[.int .i64 0] n) 3)).alloc (.cells (madeCells #[.bool false] n) 4) = wD by rw [← hwA, ← hwB, ← hwD])
  have cA : (w.alloc (.cells (madeCells #[.int .i64 0] n) 3)).cell? ⟨M, 0, none⟩ = some (.slice (some ⟨bc, oc, none⟩) n ce) := by rw [← hwA]; exact (bA.cell (p := ⟨M, 0, none⟩) hM).trans m0
  have HG := hide hg
  have HN := hide hl
  have HT := hide hT
  have HGd := hide hG
  have HC := hide hc
  have HB0 := hide hb0
  clear bA oA bB oB bD oD bAD hwA hwB hwD hg hl hT hG hc hb0 opu opv oow hnd m1 m2 m3 sA sB sD cA lpu lpv low
  clear wA wB
  go_enter Try.func60, Try.ntmps60
  go_upto_region 4 with fail
  rw [HWD.out]
  clear HWD m0 hmi hmb
  generalize w.heap.size + 1 + 1 = GN at HS0 ⊢
  generalize w.heap.size + 1 = FR at HS0 ⊢
  generalize w.heap.size = LS at HS0 hM ⊢
  clear hM
  go_wp2_with fail
  go_loopw [8, 31] (fun _ s wr => ∃ (k : Nat), s = .int .i64 k ∧ k ≤ n ∧ Hid (S6 w wr w0.heap.size M (some ⟨bc, oc, none⟩) n ce cap PU PV OW LS FR GN T.u T.v T.o (fun b => if b < k then Hu.far else 0) (fun b => if b < k then -1 else 0) (fun _ => false))) (fun _ s _ => n - (intOf s).toNat)
  case atStart => exact ⟨0, rfl, Nat.zero_le _, hide (HS0.out.as (fun _ _ => rfl) (fun _ _ => rfl) (fun _ _ => rfl) (fun i _ => by simp) (fun i _ => by simp) (fun _ _ => rfl))⟩
  case round =>
    clear HS0
    obtain ⟨k, rfl, hk, HS⟩ := hrel
    by_cases hlt : k < n
    · have i0 : (0 : Int) ≤ (k : Int) := by omega
      have i1 : (k : Int) < (n : Int) := by omega
      obtain ⟨x1, c1⟩ := int_at (HS.out.c_ls hlt)
      have z1 := HS.out.z_ls k
      have A1 := HS.out.set_ls (i := k) Hu.far 0
      rw [drewN0] at A1
      obtain ⟨x2, c2⟩ := int_at (A1.c_fr hlt)
      have z2 := A1.z_fr k
      have A2 := A1.set_fr (i := k) (-1) 0
      rw [drewN0] at A2
      have HA2 := hide (A2.as (fun _ _ => rfl) (fun _ _ => rfl) (fun _ _ => rfl) (ls' := fun b => if b < k + 1 then Hu.far else 0) (fun i _ => by simp only [Hu.upd]; (repeat' split) <;> omega) (fr' := fun b => if b < k + 1 then -1 else 0) (fun i _ => by simp only [Hu.upd]; (repeat' split) <;> omega) (fun _ _ => rfl))
      clear HS A1 A2
      unfold Hu.far at *
      go_wp2_with fail
      go_roundw
      case rel => exact ⟨k + 1, by go_num, by omega, HA2⟩
      case measure => simp only [intOf]; omega
    · have hke : k = n := by omega
      have HS1 : Hid (S6 w wr w0.heap.size M (some ⟨bc, oc, none⟩) n ce cap PU PV OW LS FR GN (Hu.start T.u T.v).u (Hu.start T.u T.v).v T.o (Hu.start T.u T.v).ls (Hu.start T.u T.v).fr (Hu.start T.u T.v).gn) := hide (HS.out.as (fun _ _ => rfl) (fun _ _ => rfl) (fun _ _ => rfl) (fun i hi => by simp [Hu.start]; omega) (fun i hi => by simp [Hu.start]; omega) (fun _ _ => rfl))
      have HI0 := hide (Hu.In.start (L := L) HT.out.pr)
      have i1 : ¬ (k : Int) < (n : Int) := by omega
      clear HS hk hlt hke
      go_wp2_with fail
      go_loopg [9] n (fun gk s9 wi => ∃ (S : Hu.Sk) (g : List Nat), s9 = .int .i64 S.la ∧ Hid (gk = n - g.length) ∧ Hid (Hu.In C n T.o L S g) ∧ Hid (Hu.run C n T.o L n (Hu.start T.u T.v) = Hu.run C n T.o L gk S) ∧ Hid (S6 w wi w0.heap.size M (some ⟨bc, oc, none⟩) n ce cap PU PV OW LS FR GN S.u S.v T.o S.ls S.fr S.gn))
      case atStart => exact ⟨Hu.start T.u T.v, [], rfl, hide rfl, HI0, hide rfl, HS1⟩
      case round =>
        clear HS1 HI0
        obtain ⟨S, g, rfl, HK, HI, HR, HS⟩ := hrel
        have HCR := hide (HS.out.cr HC.out HB0.out)
        have m3 := HS.out.m3
        go_upto_if 43 with fail
        go_cut [9, 10] (fun s9 s10 wc => s9 = .int .i64 S.la ∧ s10 = .int .i64 (Hu.nx T.o L S.la) ∧ wc = wr)
        case first =>
          have hla := HI.out.la
          cases g with
          | nil =>
            have e1 : S.la = -1 := hla
            have e2 : Hu.nx T.o L S.la = (L : Int) := by rw [e1, Hu.nx, if_pos (by omega)]
            have HE := hide e2
            have HE1 := hide e1
            rw [e1]
            clear hla e2 e1 HS HCR
            go_wp2_with fail
            go_meet
            case rel => exact ⟨by rw [HE1.out], by rw [HE.out], rfl⟩
          | cons d r =>
            have e1 : S.la = (d : Int) := hla
            have hd := HI.out.gb d List.mem_cons_self
            have c1 := HS.out.c_ow hd
            have e2 : Hu.nx T.o L S.la = T.o d := by rw [e1, Hu.nx, if_neg (by omega)]; simp
            have HE := hide e2
            have HE1 := hide e1
            rw [e1]
            clear e2 hla e1
            have i0 : (0 : Int) ≤ (d : Int) := by omega
            have i1 : (d : Int) < (n : Int) := by omega
            clear HS HCR
            go_wp2_with fail
            go_meet
            case rel => exact ⟨by rw [HE1.out], by rw [HE.out], rfl⟩
        case rest =>
          obtain ⟨rfl, rfl, hwc⟩ := hcut
          obtain rfl : wr = wc := hwc.symm
          by_cases hx : 0 ≤ Hu.nx T.o L S.la
          · have hI := Hu.ld_lt HT.out.ow hL HI.out.gb (HI.out.owns hx) (show Hu.PR g S.la by rw [HI.out.la]; exact Hu.PR.last g)
            obtain ⟨s1, s2, s3, s4, s5, s6⟩ := HI.out.step HGd.out HT.out.ow hL hx
            have HBD := hide (HI.out.bd HGd.out HT.out.ow hL)
            have HOW := hide (HI.out.owns hx)
            have HLZ := hide HI.out.lz
            have HGL := hide HI.out.gl
            have enx := Hu.ld_nx hx
            have hlen := s6.len
            simp only [List.length_cons] at hlen
            have hRun : Hu.run C n T.o L (n - g.length) S = Hu.run C n T.o L (n - g.length - 1) (Hu.step C n T.o L S) := by
              have : n - g.length = (n - g.length - 1) + 1 := by omega
              rw [this, Hu.run_on hx]; rfl
            have HRn := hide (HR.out.trans ((congrArg (fun k => Hu.run C n T.o L k S) HK.out).trans hRun))
            have HIN := hide s6
            have HBT := hide s1
            rw [enx]
            have hfe := HI.out.pr.fe _ hI
            have HFE := hide hfe
            have HBB : Hid (Hu.byN C n T.o L S = Hu.lsN C T.o L S (Hu.toN C n T.o L S)) := hide rfl
            have HBY := hide (show 0 ≤ Hu.byN C n T.o L S ∧ Hu.byN C n T.o L S ≤ 1099511627776 from ⟨s4, s5⟩)
            have HST : Hid (∀ i, i < n → Hu.frK C T.o L S n i = (Hu.step C n T.o L S).fr i) := hide fun i hi => by show _ = Hu.frN C T.o L S i; rw [Hu.frK, if_pos hi]
            have HSL : Hid (∀ k, Hu.sl C S.u S.v (Hu.ld T.o L S.la) k = Hu.ct C (Hu.ld T.o L S.la) k - S.u (Hu.ld T.o L S.la) - S.v k) := hide fun _ => rfl
            have HKs := hide fun (k : Nat) (h : S.gn k = false ∧ Hu.sl C S.u S.v (Hu.ld T.o L S.la) k < S.ls k) => (⟨fun i => Hu.lsK_set h i, fun i => Hu.frK_set h i⟩ : _ ∧ _)
            have HKn := hide fun (k : Nat) (h : ¬ (S.gn k = false ∧ Hu.sl C S.u S.v (Hu.ld T.o L S.la) k < S.ls k)) => (⟨fun i => Hu.lsK_same h i, fun i => Hu.frK_same h i⟩ : _ ∧ _)
            have HNN : Hid (∀ b, b < n → 0 ≤ Hu.lsN C T.o L S b ∧ Hu.lsN C T.o L S b ≤ 1099511627776) := hide fun b hb => by
              have h3 := HI.out.lz b hb
              have h4 := HFE.out b hb
              unfold Hu.far at h3
              rw [Hu.lsN]
              by_cases e : S.gn b = false ∧ Hu.sl C S.u S.v (Hu.ld T.o L S.la) b < S.ls b
              · rw [if_pos e]
                have := e.2
                unfold Hu.sl at this ⊢
                omega
              · rw [if_neg e]; omega
            have HS3 : Hid (S6 w wr w0.heap.size M (some ⟨bc, oc, none⟩) n ce cap PU PV OW LS FR GN S.u S.v T.o (Hu.lsK C T.o L S 0) (Hu.frK C T.o L S 0) S.gn) := hide (HS.out.as (fun _ _ => rfl) (fun _ _ => rfl) (fun _ _ => rfl) (fun i _ => by simp [Hu.lsK]) (fun i _ => by simp [Hu.frK]) (fun _ _ => rfl))
            have n0 : ¬ ((Hu.ld T.o L S.la : Nat) : Int) < 0 := by omega
            have I0 : (0 : Int) ≤ ((Hu.ld T.o L S.la : Nat) : Int) := by omega
            have I1 : ((Hu.ld T.o L S.la : Nat) : Int) < (n : Int) := by omega
            have L0 : (0 : Int) ≤ (L : Int) := by omega
            have L1 : (L : Int) < (n : Int) := by omega
            clear HS HCR m3 HR hRun hx enx hfe s1 s4 s5 s6 HI
            generalize Hu.ld T.o L S.la = I at *
            go_wp2_with fail
            go_loopw [11, 12] (fun s _ wi => ∃ (k : Nat), s = .int .i64 k ∧ k ≤ n ∧ Hid (S6 w wi w0.heap.size M (some ⟨bc, oc, none⟩) n ce cap PU PV OW LS FR GN S.u S.v T.o (Hu.lsK C T.o L S k) (Hu.frK C T.o L S k) S.gn)) (fun s _ _ => n - (intOf s).toNat)
            case atStart => exact ⟨0, rfl, Nat.zero_le _, HS3⟩
            case round =>
              clear HS3
              obtain ⟨k, rfl, hk, HS⟩ := hrel
              by_cases hlt : k < n
              · obtain ⟨rb, ro, ci, h1, h2⟩ := cr_cell HG.out HN.out hI (HS.out.cr HC.out HB0.out)
                have h2 := h2 k hlt
                have m0 := HS.out.m0
                have m1 := HS.out.m1
                have m2 := HS.out.m2
                have cu := HS.out.c_pu hI
                have cv := HS.out.c_pv hlt
                have cg := HS.out.c_gn hlt
                have cl := HS.out.c_ls hlt
                rw [Hu.lsK_at] at cl
                have zl := HS.out.z_ls k
                have b1 := HBD.out.1 I hI
                have b2 := HBD.out.2 k hlt
                have b3 := HGd.out.cl I hI k hlt
                have w1 : IntKind.i64.wrap (Hu.ct C I k - S.u I) = Hu.ct C I k - S.u I := by rw [IntKind.wrap_i64]; omega
                have w2 : IntKind.i64.wrap (Hu.ct C I k - S.u I - S.v k) = Hu.sl C S.u S.v I k := by rw [IntKind.wrap_i64, HSL.out k]; omega
                have i0 : (0 : Int) ≤ (k : Int) := by omega
                have i1 : (k : Int) < (n : Int) := by omega
                by_cases hc : S.gn k = false ∧ Hu.sl C S.u S.v I k < S.ls k
                · obtain ⟨y1, y2⟩ := HKs.out k hc
                  obtain ⟨hc1, hc2⟩ := hc
                  rw [hc1] at cg
                  have HA1 : Hid (∀ d, S6 w ((wr.drewN d).setCell ⟨LS, k, none⟩ (.int .i64 (Hu.sl C S.u S.v I k))) w0.heap.size M (some ⟨bc, oc, none⟩) n ce cap PU PV OW LS FR GN S.u S.v T.o (Hu.lsK C T.o L S (k + 1)) (Hu.frK C T.o L S k) S.gn) := hide fun d => (HS.out.set_ls (i := k) _ d).as (fun _ _ => rfl) (fun _ _ => rfl) (fun _ _ => rfl) (fun i _ => y1 i) (fun _ _ => rfl) (fun _ _ => rfl)
                  have HA2 : Hid (∀ d, S6 w (((wr.drewN d).setCell ⟨LS, k, none⟩ (.int .i64 (Hu.sl C S.u S.v I k))).setCell ⟨FR, k, none⟩ (.int .i64 S.la)) w0.heap.size M (some ⟨bc, oc, none⟩) n ce cap PU PV OW LS FR GN S.u S.v T.o (Hu.lsK C T.o L S (k + 1)) (Hu.frK C T.o L S (k + 1)) S.gn) := hide fun d => (((HA1.out d).set_fr (i := k) S.la 0).as (fun _ _ => rfl) (fun _ _ => rfl) (fun _ _ => rfl) (fun _ _ => rfl) (fun i _ => y2 i) (fun _ _ => rfl))
                  clear HS y1 y2 b1 b2 b3
                  go_wp2_with fail
                  go_quiet (fail)
                  obtain ⟨x2, cf⟩ := int_at ((HA1.out nq).c_fr hlt)
                  have zf := (HA1.out nq).z_fr k
                  clear HA1
                  go_wp2_with fail
                  go_roundw
                  case rel => exact ⟨k + 1, by go_num, by omega, hide (HA2.out _)⟩
                  case measure => simp only [intOf]; omega
                · obtain ⟨y1, y2⟩ := HKn.out k hc
                  have HA2 : Hid (∀ d, S6 w (wr.drewN d) w0.heap.size M (some ⟨bc, oc, none⟩) n ce cap PU PV OW LS FR GN S.u S.v T.o (Hu.lsK C T.o L S (k + 1)) (Hu.frK C T.o L S (k + 1)) S.gn) := hide fun d => ((HS.out.draws d).as (fun _ _ => rfl) (fun _ _ => rfl) (fun _ _ => rfl) (fun i _ => y1 i) (fun i _ => y2 i) (fun _ _ => rfl))
                  clear HS y1 y2 b1 b2 b3
                  cases hgk : S.gn k
                  · have hc2 : ¬ Hu.sl C S.u S.v I k < S.ls k := fun h => hc ⟨hgk, h⟩
                    rw [hgk] at cg
                    clear hc hgk
                    go_wp2_with fail
                    go_quiet (fail)
                    go_wp2_with fail
                    go_roundw
                    case rel => exact ⟨k + 1, by go_num, by omega, hide (HA2.out _)⟩
                    case measure => simp only [intOf]; omega
                  · rw [hgk] at cg
                    clear hc hgk
                    go_wp2_with fail
                    go_quiet (fail)
                    go_wp2_with fail
                    go_roundw
                    case rel => exact ⟨k + 1, by go_num, by omega, hide (HA2.out _)⟩
                    case measure => simp only [intOf]; omega
              · have i1 : ¬ (k : Int) < (n : Int) := by omega
                have hke : k = n := by omega
                have HS4 : Hid (S6 w wr w0.heap.size M (some ⟨bc, oc, none⟩) n ce cap PU PV OW LS FR GN S.u S.v T.o (Hu.lsN C T.o L S) (Hu.frK C T.o L S n) S.gn) := hide (by subst hke; exact HS.out.as (fun _ _ => rfl) (fun _ _ => rfl) (fun _ _ => rfl) (fun i hi => by rw [Hu.lsK, if_pos hi]) (fun _ _ => rfl) (fun _ _ => rfl))
                clear HS hk hlt hke HSL HKs HKn
                go_wp2_with fail
                clear i1
                go_loopw [13, 14] (fun s13 s wi => ∃ (k : Nat), s = .int .i64 k ∧ k ≤ n ∧ s13 = .int .i64 (Hu.bestI (Hu.lsN C T.o L S) S.gn k) ∧ Hid (S6 w wi w0.heap.size M (some ⟨bc, oc, none⟩) n ce cap PU PV OW LS FR GN S.u S.v T.o (Hu.lsN C T.o L S) (Hu.frK C T.o L S n) S.gn)) (fun _ s _ => n - (intOf s).toNat)
                case atStart => exact ⟨0, rfl, Nat.zero_le _, rfl, HS4⟩
                case round =>
                  clear HS4
                  obtain ⟨k, rfl, hk, rfl, HS⟩ := hrel
                  by_cases hlt : k < n
                  · have i0 : (0 : Int) ≤ (k : Int) := by omega
                    have i1 : (k : Int) < (n : Int) := by omega
                    have cg := HS.out.c_gn hlt
                    have cl := HS.out.c_ls hlt
                    have HA := hide fun d => HS.out.draws d
                    cases hgk : S.gn k
                    · rw [hgk] at cg
                      cases hbt : Hu.bestTo (Hu.lsN C T.o L S) S.gn k with
                      | none =>
                        have e1 : Hu.bestI (Hu.lsN C T.o L S) S.gn k = -1 := by rw [Hu.bestI, hbt]
                        have HE := hide (Hu.bestI_first hgk hbt)
                        rw [e1]
                        clear HS hgk hbt e1
                        go_wp2_with fail
                        go_quiet (fail)
                        go_wp2_with fail
                        go_roundw
                        case rel => exact ⟨k + 1, by go_num, by omega, by rw [HE.out], hide (HA.out _)⟩
                        case measure => simp only [intOf]; omega
                      | some b =>
                        have e1 : Hu.bestI (Hu.lsN C T.o L S) S.gn k = (b : Int) := by rw [Hu.bestI, hbt]
                        have hbk := (Hu.bestTo_some hbt).1
                        have cb := HS.out.c_ls (show b < n by omega)
                        have b0 : (0 : Int) ≤ (b : Int) := by omega
                        have b1 : (b : Int) < (n : Int) := by omega
                        have b2 : ¬ (b : Int) < 0 := by omega
                        rw [e1]
                        by_cases hc : Hu.lsN C T.o L S k < Hu.lsN C T.o L S b
                        · have HE := hide (Hu.bestI_less hgk hbt hc)
                          clear HS hgk hbt e1
                          go_wp2_with fail
                          go_quiet (fail)
                          go_wp2_with fail
                          go_roundw
                          case rel => exact ⟨k + 1, by go_num, by omega, by rw [HE.out], hide (HA.out _)⟩
                          case measure => simp only [intOf]; omega
                        · have HE := hide (Hu.bestI_more hbt hc)
                          clear HS hgk hbt e1
                          go_wp2_with fail
                          go_quiet (fail)
                          go_wp2_with fail
                          go_roundw
                          case rel => exact ⟨k + 1, by go_num, by omega, by rw [HE.out], hide (HA.out _)⟩
                          case measure => simp only [intOf]; omega
                    · rw [hgk] at cg
                      have HE := hide (Hu.bestI_gone (ls := Hu.lsN C T.o L S) hgk)
                      clear HS hgk
                      go_wp2_with fail
                      go_quiet (fail)
                      go_wp2_with fail
                      go_roundw
                      case rel => exact ⟨k + 1, by go_num, by omega, by rw [HE.out], hide (HA.out _)⟩
                      case measure => simp only [intOf]; omega
                  · have i1 : ¬ (k : Int) < (n : Int) := by omega
                    have hke : k = n := by omega
                    have e1 : Hu.bestI (Hu.lsN C T.o L S) S.gn k = ((Hu.toN C n T.o L S : Nat) : Int) := by rw [hke, Hu.bestI, HBT.out]
                    rw [e1]
                    have cb := HS.out.c_ls s2
                    rw [← HBB.out] at cb
                    have cu := HS.out.c_pu hL
                    have zu := HS.out.z_pu L
                    have m1 := HS.out.m1
                    have b1 := HBD.out.1 L hL
                    have b2 := HBY.out
                    have t0 : (0 : Int) ≤ ((Hu.toN C n T.o L S : Nat) : Int) := by omega
                    have t1 : ((Hu.toN C n T.o L S : Nat) : Int) < (n : Int) := by omega
                    have w1 : IntKind.i64.wrap (S.u L + Hu.byN C n T.o L S) = S.u L + Hu.byN C n T.o L S := by rw [IntKind.wrap_i64]; omega
                    have HU := hide fun i => Hu.uK_zero T.o S.u L S.gn (Hu.byN C n T.o L S) i
                    have HA := hide (HS.out.set_pu (i := L) (S.u L + Hu.byN C n T.o L S) 0)
                    rw [drewN0] at HA
                    have HS5 : Hid (S6 w (wr.setCell ⟨PU, L, none⟩ (.int .i64 (S.u L + Hu.byN C n T.o L S))) w0.heap.size M (some ⟨bc, oc, none⟩) n ce cap PU PV OW LS FR GN (Hu.uK T.o S.u L S.gn (Hu.byN C n T.o L S) 0) (Hu.vK S.v S.gn (Hu.byN C n T.o L S) 0) T.o (Hu.lK (Hu.lsN C T.o L S) S.gn (Hu.byN C n T.o L S) 0) (Hu.frK C T.o L S n) S.gn) := hide (HA.out.as (fun i _ => HU.out i) (fun i _ => by simp [Hu.vK]) (fun _ _ => rfl) (fun i _ => by simp [Hu.lK]) (fun _ _ => rfl) (fun _ _ => rfl))
                    have HUs := hide fun (k : Nat) (hk : k < n) (hg : S.gn k = true) (h0 : 0 ≤ T.o k) => (⟨Hu.uK_off (u := S.u) (gn := S.gn) (y := Hu.byN C n T.o L S) HT.out.ow hk h0, fun i => Hu.uK_set (u := S.u) (L := L) (y := Hu.byN C n T.o L S) hg h0 i⟩ : _ ∧ _)
                    clear HS hk hlt hke e1 HA HU b1 b2
                    go_wp2_with fail
                    clear i1 w1 cb cu zu m1
                    go_loopw [16] (fun s wi => ∃ (k : Nat), s = .int .i64 k ∧ k ≤ n ∧ Hid (S6 w wi w0.heap.size M (some ⟨bc, oc, none⟩) n ce cap PU PV OW LS FR GN (Hu.uK T.o S.u L S.gn (Hu.byN C n T.o L S) k) (Hu.vK S.v S.gn (Hu.byN C n T.o L S) k) T.o (Hu.lK (Hu.lsN C T.o L S) S.gn (Hu.byN C n T.o L S) k) (Hu.frK C T.o L S n) S.gn)) (fun s _ => n - (intOf s).toNat)
                    case atStart => exact ⟨0, rfl, Nat.zero_le _, HS5⟩
                    case round =>
                      clear HS5
                      obtain ⟨k, rfl, hk, HS⟩ := hrel
                      by_cases hlt : k < n
                      · have i0 : (0 : Int) ≤ (k : Int) := by omega
                        have i1 : (k : Int) < (n : Int) := by omega
                        have cg := HS.out.c_gn hlt
                        have b2 := HBY.out
                        cases hgk : S.gn k
                        · rw [hgk] at cg
                          have cl := HS.out.c_ls hlt
                          rw [Hu.lK_at] at cl
                          have zl := HS.out.z_ls k
                          have b3 := HNN.out k hlt
                          have w1 : IntKind.i64.wrap (Hu.lsN C T.o L S k - Hu.byN C n T.o L S) = Hu.lsN C T.o L S k - Hu.byN C n T.o L S := by rw [IntKind.wrap_i64]; omega
                          have HA := hide (HS.out.set_ls (i := k) (Hu.lsN C T.o L S k - Hu.byN C n T.o L S) 0)
                          rw [drewN0] at HA
                          have HA2 := hide (HA.out.as (fun i _ => Hu.uK_same (o := T.o) (u := S.u) (L := L) (y := Hu.byN C n T.o L S) hgk i) (fun i _ => Hu.vK_same (v := S.v) (y := Hu.byN C n T.o L S) hgk i) (fun _ _ => rfl) (fun i _ => Hu.lK_set (ls := Hu.lsN C T.o L S) (y := Hu.byN C n T.o L S) hgk i) (fun _ _ => rfl) (fun _ _ => rfl))
                          clear HS HA hgk b2 b3
                          go_wp2_with fail
                          go_roundw
                          case rel => exact ⟨k + 1, by go_num, by omega, HA2⟩
                          case measure => simp only [intOf]; omega
                        · rw [hgk] at cg
                          have h0 := HOW.out k ((HGL.out k hlt).1 hgk)
                          obtain ⟨j, ej⟩ : ∃ j : Nat, T.o k = (j : Int) := ⟨(T.o k).toNat, by omega⟩
                          have ej' : (T.o k).toNat = j := by omega
                          have hj : j < n := by
                            rcases HT.out.ow.is k hlt with e | e <;> omega
                          obtain ⟨y1, y2⟩ := HUs.out k hlt hgk h0
                          rw [ej'] at y1 y2
                          have co := HS.out.c_ow hlt
                          rw [ej] at co
                          have cu := HS.out.c_pu hj
                          rw [y1] at cu
                          have zu := HS.out.z_pu j
                          have m1 := HS.out.m1
                          have m2 := HS.out.m2
                          have m3 := HS.out.m3
                          have b3 := HBD.out.1 j hj
                          have b4 := HBD.out.2 k hlt
                          have w1 : IntKind.i64.wrap (S.u j + Hu.byN C n T.o L S) = S.u j + Hu.byN C n T.o L S := by rw [IntKind.wrap_i64]; omega
                          have w2 : IntKind.i64.wrap (S.v k - Hu.byN C n T.o L S) = S.v k - Hu.byN C n T.o L S := by rw [IntKind.wrap_i64]; omega
                          have j0 : (0 : Int) ≤ (j : Int) := by omega
                          have j1 : (j : Int) < (n : Int) := by omega
                          have HA1 : Hid (∀ d, S6 w ((wr.drewN d).setCell ⟨PU, j, none⟩ (.int .i64 (S.u j + Hu.byN C n T.o L S))) w0.heap.size M (some ⟨bc, oc, none⟩) n ce cap PU PV OW LS FR GN (Hu.uK T.o S.u L S.gn (Hu.byN C n T.o L S) (k + 1)) (Hu.vK S.v S.gn (Hu.byN C n T.o L S) k) T.o (Hu.lK (Hu.lsN C T.o L S) S.gn (Hu.byN C n T.o L S) k) (Hu.frK C T.o L S n) S.gn) := hide fun d => (HS.out.set_pu (i := j) _ d).as (fun i _ => y2 i) (fun _ _ => rfl) (fun _ _ => rfl) (fun _ _ => rfl) (fun _ _ => rfl) (fun _ _ => rfl)
                          have q2 := (HA1.out 0).m2
                          have cv := (HA1.out 0).c_pv hlt
                          rw [Hu.vK_at] at cv
                          have zv := (HA1.out 0).z_pv k
                          rw [drewN0] at q2 cv zv
                          have HA2 : Hid (∀ d, S6 w (((wr.drewN d).setCell ⟨PU, j, none⟩ (.int .i64 (S.u j + Hu.byN C n T.o L S))).setCell ⟨PV, k, none⟩ (.int .i64 (S.v k - Hu.byN C n T.o L S))) w0.heap.size M (some ⟨bc, oc, none⟩) n ce cap PU PV OW LS FR GN (Hu.uK T.o S.u L S.gn (Hu.byN C n T.o L S) (k + 1)) (Hu.vK S.v S.gn (Hu.byN C n T.o L S) (k + 1)) T.o (Hu.lK (Hu.lsN C T.o L S) S.gn (Hu.byN C n T.o L S) (k + 1)) (Hu.frK C T.o L S n) S.gn) := hide fun d => ((HA1.out d).set_pv (i := k) _ 0).as (fun _ _ => rfl) (fun i _ => Hu.vK_set (v := S.v) (y := Hu.byN C n T.o L S) hgk i) (fun _ _ => rfl) (fun i _ => Hu.lK_same (ls := Hu.lsN C T.o L S) (y := Hu.byN C n T.o L S) hgk i) (fun _ _ => rfl) (fun _ _ => rfl)
                          clear HS HA1 hgk b2 b3 b4 y1 y2 h0 ej ej'
                          go_wp2_with fail
                          go_region
                          go_wp2_with fail
                          go_roundw
                          case rel => exact ⟨k + 1, by go_num, by omega, hide (HA2.out 1)⟩
                          case measure => simp only [intOf]; omega
                      · have i1 : ¬ (k : Int) < (n : Int) := by omega
                        have hke : k = n := by omega
                        have cg := HS.out.c_gn s2
                        have zg := HS.out.z_gn (Hu.toN C n T.o L S)
                        have HA := hide (HS.out.set_gn (i := Hu.toN C n T.o L S) true 0)
                        rw [drewN0, hke] at HA
                        have HA2 : Hid (S6 w (wr.setCell ⟨GN, Hu.toN C n T.o L S, none⟩ (.bool true)) w0.heap.size M (some ⟨bc, oc, none⟩) n ce cap PU PV OW LS FR GN (Hu.step C n T.o L S).u (Hu.step C n T.o L S).v T.o (Hu.step C n T.o L S).ls (Hu.step C n T.o L S).fr (Hu.step C n T.o L S).gn) := hide (HA.out.as (fun i _ => Hu.round_u C n T.o L S i) (fun i hi => Hu.round_v hi) (fun _ _ => rfl) (fun i hi => Hu.round_l hi) (fun i hi => HST.out i hi) (fun i _ => by show updB S.gn _ true i = (decide (i = _) || S.gn i); unfold updB; by_cases e : i = Hu.toN C n T.o L S <;> simp [e]))
                        clear HS HA hke
                        go_wp2_with fail
                        go_roundg (n - g.length - 1)
                        case measure => have := HK.out; omega
                        case rel => exact ⟨Hu.step C n T.o L S, Hu.toN C n T.o L S :: g, rfl, hide (by simp; omega), HIN, HRn, HA2⟩
          · obtain ⟨d, r, rfl⟩ : ∃ d r, g = d :: r := by
              cases g with
              | nil => rw [HI.out.la] at hx; exact absurd (by simp [Hu.nx, Hu.lastOf]) hx
              | cons d r => exact ⟨d, r, rfl⟩
            have hla : S.la = (d : Int) := HI.out.la
            have hnx : Hu.nx T.o L S.la = T.o d := by rw [hla, Hu.nx, if_neg (by omega)]; simp
            have hdn := HI.out.gb d List.mem_cons_self
            have ho1 : T.o d = -1 := by
              rcases HT.out.ow.is d hdn with h | h
              · exact h
              · rw [hnx] at hx; omega
            have hS : Hu.run C n T.o L n (Hu.start T.u T.v) = S := HR.out.trans (Hu.run_here (by omega))
            have HEU : Hid ((Hu.seek C n L T).u = S.u) := hide (by rw [Hu.seek, hS])
            have HEV : Hid ((Hu.seek C n L T).v = S.v) := hide (by rw [Hu.seek, hS])
            have HEO : Hid ((Hu.seek C n L T).o = Hu.back S.fr L (n + 1) T.o (Hu.lastOf (d :: r))) := hide (by rw [Hu.seek, hS, hla]; rfl)
            have hlen := HI.out.len
            have HCH := hide HI.out.ch
            have HGB := hide HI.out.gb
            rw [hnx, ho1, hla]
            clear HR HK hx hnx ho1 hS hla HCR m3 HI
            go_wp2_with fail
            go_loopg [17] n (fun gk s17 wi => ∃ (o : Hu.Fn) (t : List Nat) (k : Nat), s17 = .int .i64 (Hu.lastOf t) ∧ t.length ≤ gk ∧ Hid (t <:+ d :: r) ∧ Hid (t.length + 1 ≤ k) ∧ Hid (Hu.back S.fr L k o (Hu.lastOf t) = (Hu.seek C n L T).o) ∧ Hid (S6 w wi w0.heap.size M (some ⟨bc, oc, none⟩) n ce cap PU PV OW LS FR GN S.u S.v o S.ls S.fr S.gn))
            case atStart => exact ⟨T.o, d :: r, n + 1, rfl, hlen, hide (List.suffix_refl _), hide (by omega), hide HEO.out.symm, HS⟩
            case round =>
              clear HS
              obtain ⟨o, t, k, rfl, hgk, HSF, HKK, HBK, HS⟩ := hrel
              cases t with
              | nil =>
                have eo : o = (Hu.seek C n L T).o := by rw [← HBK.out]; exact Hu.back_off.symm
                have HP := hide HS.out.pu
                have HV := hide HS.out.pv
                have HO := hide HS.out.ow
                have HF := hide HS.out.off
                have HEO' := hide eo
                clear HS eo
                unfold Hu.lastOf
                go_wp2_with fail
                go_end0
                exact ⟨rfl, by rw [HEU.out]; exact HP.out, by rw [HEV.out]; exact HV.out, by rw [← HEO'.out]; exact HO.out, HF.out⟩
              | cons b t' =>
                have hbn := HGB.out b (HSF.out.subset List.mem_cons_self)
                have cf := HS.out.c_fr hbn
                have m3 := HS.out.m3
                obtain ⟨xo, cb⟩ := int_at (HS.out.c_ow hbn)
                have zb := HS.out.z_ow b
                obtain ⟨k', rfl⟩ : ∃ k', k = k' + 1 := ⟨k - 1, by have := HKK.out; omega⟩
                have hbk : Hu.back S.fr L (k' + 1) o ((b : Nat) : Int) = (Hu.seek C n L T).o := HBK.out
                rw [Hu.back_on] at hbk
                have b0 : (0 : Int) ≤ (b : Int) := by omega
                have b1 : (b : Int) < (n : Int) := by omega
                show _
                unfold Hu.lastOf
                simp only [List.length_cons] at hgk
                rcases (HCH.out b t' HSF.out).1 with e1 | ⟨f, hf, e1⟩
                · rw [e1] at cf hbk
                  rw [if_pos (by omega)] at hbk
                  have HA := hide (HS.out.set_ow (i := b) (L : Int) 0)
                  rw [drewN0] at HA
                  have cf2 := HA.out.c_fr hbn
                  rw [e1] at cf2
                  have HBK2 := hide hbk
                  clear HS hbk HBK e1
                  go_wp2_with fail
                  go_roundg 0
                  case measure => omega
                  case rel => exact ⟨_, [], k', rfl, Nat.zero_le _, hide (List.nil_suffix), hide (by have := HKK.out; simp at this; simp; omega), HBK2, HA⟩
                · have hfn := HGB.out f (HSF.out.subset (List.mem_cons_of_mem _ hf))
                  have f0 : (0 : Int) ≤ (f : Int) := by omega
                  have f1 : (f : Int) < (n : Int) := by omega
                  have f2 : ¬ (f : Int) < 0 := by omega
                  have co := HS.out.c_ow hfn
                  rw [e1] at cf hbk
                  rw [if_neg f2, Int.toNat_natCast] at hbk
                  have HA : Hid (∀ d, S6 w ((wr.drewN d).setCell ⟨OW, b, none⟩ (.int .i64 (o f))) w0.heap.size M (some ⟨bc, oc, none⟩) n ce cap PU PV OW LS FR GN S.u S.v (Hu.upd o b (o f)) S.ls S.fr S.gn) := hide fun d => HS.out.set_ow (i := b) (o f) d
                  have cf2 := (HA.out 0).c_fr hbn
                  rw [e1, drewN0] at cf2
                  have HBK2 := hide hbk
                  obtain ⟨p1, p2, hpp⟩ := List.append_of_mem hf
                  have hsuf : (f :: p2) <:+ t' := ⟨p1, hpp.symm⟩
                  have hl2 : (f :: p2).length ≤ t'.length := hsuf.length_le
                  have HSF2 := hide (List.IsSuffix.trans (List.IsSuffix.trans hsuf (List.suffix_cons b t')) HSF.out)
                  have HKK2 : Hid ((f :: p2).length + 1 ≤ k') := hide (by have := HKK.out; simp at this hl2 ⊢; omega)
                  clear HS hbk HBK e1 hpp hsuf
                  go_wp2_with fail
                  go_region
                  go_wp2_with fail
                  go_roundg (t'.length)
                  case measure => omega
                  case rel => exact ⟨_, f :: p2, k', rfl, hl2, HSF2, HKK2, HBK2, hide (HA.out 1)⟩
end Go.Proofs.Ytcniegaogdggaaa
