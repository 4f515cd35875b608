/-
  In one: Fg13, Fp13, Fi13, Ft13, Fj13, Fo13, Fq13, Pm, Pn, Fs13, Ga13, Jm10, Gb13, C, E, F, Sk, Op, Qo.
-/
import Derived.Test.YtdpjkblondoimabV2
import Derived.Deep.AppendSrc
import Derived.Deep.DeepCutAuto
import Derived.Test.YtdpjkblondoimabV1
import Derived.Deep.RegionHeld3
import Derived.ChangeSlices
import Derived.ProofKit
import Derived.OpenShut
import Derived.ChangeOld
import Derived.Below
import Derived.Deep.SlicePairs
import Derived.Deep.Matrix
namespace Go.Proofs.Ytdpjkblondoimab
namespace Nt
/-- The program's own words: -1 for those not come to, 0 for hall 0. -/
def encF (x : Int) : Int := if x = -2 then -1 else if x = -1 then 0 else x
def enc (M : List Int) : List Int := M.map encF
theorem enc_len (M : List Int) : (enc M).length = M.length := by simp [enc]
theorem enc_at {M : List Int} {k : Nat} (h : k < M.length) : (enc M).getD k 0 = encF (M.getD k 0) := by simp [enc, h]
theorem enc_set (M : List Int) (k : Nat) {a : Int} (ha : 0 ≤ a) : enc (M.set k a) = (enc M).set k a := by
  have : encF a = a := by unfold encF; rw [if_neg (by omega), if_neg (by omega)]
  unfold enc
  rw [List.map_set, this]
theorem encF_no (x : Int) : encF x = -1 ↔ x = -2 := by
  unfold encF
  split
  · simp [*]
  · split <;> omega
theorem encF_nn {x : Int} (h : 0 ≤ x) : encF x = x := by unfold encF; rw [if_neg (by omega), if_neg (by omega)]
theorem enc_start (n : Nat) : enc (start n) = (List.replicate n (-1)).set 0 0 := by
  unfold enc start
  rw [List.map_set, List.map_replicate]
  rfl
end Nt
open Go.Conc Go.RowKit
/-- The search: from g the halls come from, in c those that wait. -/
structure CF (w0 : World) (n g c s r : Nat) (M Q : List Int) (w : World) : Prop where
  own : w.ownsRow w0.heap.size 3 1 (.slice (some ⟨g, 0, none⟩) n n) n (ints (Nt.enc M))
  ch : w.heap[c]? = some (.chan n (qv Q) false s r false)
  ne : g ≠ c
  lo : w0.heap.size ≤ c
  bel : Below w0.heap.size w0 w
  len : M.length = n
theorem CF.at {w0 w : World} {n g c s r k : Nat} {M Q : List Int} (h : CF w0 n g c s r M Q w) (hk : k < n) : w.cell? ⟨g, k, none⟩ = some (.int .i64 (Nt.encF (M.getD k 0))) ∧ w.frozen? ⟨g, k, none⟩ = false := by
  refine ⟨?_, h.own.frozenAt k⟩
  rw [h.own.cellAt k (by omega), ints_get _ k (by rw [Nt.enc_len, h.len]; exact hk), Nt.enc_at (by rw [h.len]; exact hk)]
theorem CF.store {w0 w : World} {n g c s r k : Nat} {M Q : List Int} {a : Int} (h : CF w0 n g c s r M Q w) (ha : 0 ≤ a) : CF w0 n g c s r (M.set k a) Q (w.setCell ⟨g, k, none⟩ (.int .i64 a)) := by
  obtain ⟨st1, st2⟩ := h.own.stored k (.int .i64 a)
  rw [ints_set, ← Nt.enc_set M k ha] at st1
  exact ⟨st1, (Below.heap_setCell w ⟨g, k, none⟩ _ c (Ne.symm h.ne)).trans h.ch, h.ne, h.lo, h.bel.setCell (p := ⟨g, k, none⟩) (h.own.lt g rfl).1 _, by rw [List.length_set]; exact h.len⟩
theorem CF.turn {w0 w : World} {n g c s r s' r' : Nat} {M Q Q' : List Int} (h : CF w0 n g c s r M Q w) : CF w0 n g c s' r' M Q' (w.setChan c n (qv Q') false s' r' false) :=
  ⟨own_keep2 h.own fun b hv _ => by
      have : g = b := by simpa [Value.ownBlock] using hv
      subst this
      simp only [World.setChan]; rw [Array.getElem?_setIfInBounds_ne (Ne.symm h.ne)], heap_setChan w c n _ false _ _ false (Array.getElem?_eq_some_iff.1 h.ch).1, h.ne, h.lo, below_setChan h.bel h.lo _ _ _ _ _ _, h.len⟩
def rcv (c : Nat) (w : World) : Nat := match w.heap[c]? with
  | some (.chan _ _ _ _ r _) => r
  | _ => 0
theorem CF.rcv {w0 w : World} {n g c s r : Nat} {M Q : List Int} (h : CF w0 n g c s r M Q w) : rcv c w = r := by unfold Proofs.Ytdpjkblondoimab.rcv; rw [h.ch]
def msr (n c : Nat) (v : Value) (w : World) : Nat := match v with
  | .bool true => n + 2 - rcv c w
  | _ => 0
set_option maxHeartbeats 400000 in
theorem next_eq {w0 w : World} {n g c s r : Nat} {M Q : List Int} (h : Hid (CF w0 n g c s r M Q w)) :
    Calls Try.prog 52 #[.chan (some c)] w fun e w' => (∃ a Q', Q = a :: Q' ∧ e = .returned (.tuple #[.int .i64 a, .bool true]) ∧ CF w0 n g c s (r + 1) M Q' w') ∨ (Q = [] ∧ e = .returned (.tuple #[.int .i64 (-1), .bool false]) ∧ CF w0 n g c s r M [] w') := by
  cases Q with
  | nil => exact (next13_no h.out.ch).mono fun _ _ ⟨h1, h2⟩ => Or.inr ⟨rfl, h1, h2 ▸ h.out⟩
  | cons a Q => exact (next13_yes h.out.ch).mono fun _ _ ⟨h1, h2⟩ => Or.inl ⟨a, Q, rfl, h1, h2 ▸ h.out.turn⟩
theorem add_eq {w0 w : World} {n g c s r : Nat} {M Q : List Int} {x : Int} (h : Hid (CF w0 n g c s r M Q w)) (hq : Q.length < n) :
    Calls Try.prog 51 #[.chan (some c), .int .i64 x] w fun e w' => e = .returned (.tuple #[]) ∧ CF w0 n g c (s + 1) r M (Q ++ [x]) w' :=
  (add13 h.out.ch hq).mono fun _ _ ⟨h1, h2⟩ => ⟨h1, h2 ▸ h.out.turn⟩
/-- What holds where the next hall is asked for. -/
def CFo (w0 : World) (R : List (List Int)) (n g c : Nat) (s5 s6 : Value) (w : World) : Prop :=
  ∃ s r M Q, CF w0 n g c s r M Q w ∧ ((∃ (a : Nat) (f : Nat), s5 = .int .i64 (a : Int) ∧ s6 = .bool true ∧ a < n ∧ Nt.bfs R n f M ((a : Int) :: Q) = Nt.come R n ∧ Nt.open2 M ((a : Int) :: Q) ≤ f ∧ (1 ≤ r ∧ r + Nt.open2 M ((a : Int) :: Q) = n + 1) ∧ ∀ x ∈ Q, 0 ≤ x ∧ x < n) ∨ (s6 = .bool false ∧ M = Nt.come R n))
theorem scan_mem {R : List (List Int)} {a : Int} {M Q : List Int} {n : Nat} (h : ∀ x ∈ Q, 0 ≤ x ∧ x < (n : Int)) : ∀ k, k ≤ n → ∀ x ∈ (Nt.scanTo R a M Q k).2, 0 ≤ x ∧ x < (n : Int)
  | 0, _ => h
  | k + 1, hk => by
    have ih := scan_mem (R := R) (a := a) (M := M) h k (by omega)
    rw [Nt.scanTo]
    split
    · intro x hx
      rcases List.mem_append.1 hx with hx | hx
      · exact ih x hx
      · simp at hx; omega
    · exact ih
theorem cf_next {w0 w : World} {R : List (List Int)} {n g c r f a : Nat} {M Q : List Int} (hM : M.length = n) (hb : Nt.bfs R n f M ((a : Int) :: Q) = Nt.come R n) (ho : Nt.open2 M ((a : Int) :: Q) ≤ f) (hr : 1 ≤ r ∧ r + Nt.open2 M ((a : Int) :: Q) = n + 1) (hq : ∀ x ∈ Q, 0 ≤ x ∧ x < (n : Int))
    {s' : Nat} {e : Ending} (h : (∃ x Q', (Nt.scanTo R a M Q n).2 = x :: Q' ∧ e = .returned (.tuple #[.int .i64 x, .bool true]) ∧ CF w0 n g c s' (r + 1) (Nt.scanTo R a M Q n).1 Q' w) ∨ ((Nt.scanTo R a M Q n).2 = [] ∧ e = .returned (.tuple #[.int .i64 (-1), .bool false]) ∧ CF w0 n g c s' r (Nt.scanTo R a M Q n).1 [] w)) :
    ∃ x t, e = .returned (.tuple #[.int .i64 x, .bool t]) ∧ CFo w0 R n g c (.int .i64 x) (.bool t) w ∧ msr n c (.bool t) w < n + 2 - r := by
  have hop := Nt.scan_open (R := R) (a := (a : Int)) (M := M) (Q := Q) (by omega) n (by omega)
  have h1 : Nt.open2 M ((a : Int) :: Q) = Nt.open2 M Q + 1 := by unfold Nt.open2; simp only [List.length_cons]; omega
  obtain ⟨f, rfl⟩ : ∃ g, f = g + 1 := ⟨f - 1, by omega⟩
  rw [Nt.bfs] at hb
  have hmem := scan_mem (R := R) (a := (a : Int)) (M := M) hq n (Nat.le_refl _)
  rcases h with ⟨x, Q', e1, e2, hc⟩ | ⟨e1, e2, hc⟩
  · rw [e1] at hb hop hmem
    have hx := hmem x List.mem_cons_self
    refine ⟨x, true, e2, ⟨s', r + 1, _, Q', hc, Or.inl ⟨x.toNat, f, ?_, rfl, by omega, ?_, ?_, ?_, fun y hy => hmem y (List.mem_cons_of_mem _ hy)⟩⟩, ?_⟩
    · rw [Int.toNat_of_nonneg hx.1]
    · rw [Int.toNat_of_nonneg hx.1]; exact hb
    · rw [Int.toNat_of_nonneg hx.1]; omega
    · rw [Int.toNat_of_nonneg hx.1]; exact ⟨by omega, by omega⟩
    · show n + 2 - rcv c w < n + 2 - r
      rw [hc.rcv]; omega
  · rw [e1] at hb
    refine ⟨-1, false, e2, ⟨s', r, _, [], hc, Or.inr ⟨rfl, ?_⟩⟩, ?_⟩
    · rw [← hb]; cases f <;> rfl
    · show 0 < n + 2 - r
      omega
set_option maxRecDepth 100000 in
set_option maxHeartbeats 8000000 in
theorem cam_any {a : Option Addr} {n c : Nat} {R : List (List Int)} {w : World} (HN : Hid (R.length = n)) (h2 : 2 ≤ n) (h8 : n ≤ 8) (HRW : Hid (∀ i, i < n → (R.getD i []).length = n)) (H : Hid (CRow w a R)) :
    Calls Try.prog 39 #[.slice a n c] w fun e w' => ∃ g, e = .returned (.slice (some ⟨g, 0, none⟩) n n) ∧ w'.ownsRow w.heap.size 3 1 (.slice (some ⟨g, 0, none⟩) n n) n (ints (Nt.enc (Nt.come R n))) ∧ Below w.heap.size w w' := by
  have hB0 := below_new w (.cells #[.int .i64 (-1)] 3)
  have c0 : (w.alloc (.cells #[.int .i64 (-1)] 3)).cell? ⟨w.heap.size, 0, none⟩ = some (.int .i64 (-1)) := by simp
  have hz : w.heap.size < (w.alloc (.cells #[.int .i64 (-1)] 3)).heap.size := by simp
  have HREP := hide (rp_any (B := w.heap.size) (n := n) (w := w.alloc (.cells #[.int .i64 (-1)] 3)) (by omega) c0 hz)
  have n0 : (0 : Int) < (n : Int) := by omega
  clear c0
  go_enter Try.func39, Try.ntmps39
  go_wp2_with fail
  refine HREP.out.mono ?_
  rintro e w1 ⟨rfl, hb1, own1⟩
  obtain ⟨g, hg⟩ : ∃ g, g = (w.alloc (.cells #[.int .i64 (-1)] 3)).heap.size := ⟨_, rfl⟩
  rw [← hg] at own1 ⊢
  have hgz : g < w1.heap.size := (own1.lt g rfl).2
  have hgl : w.heap.size ≤ g := by rw [hg]; omega
  have f0 := own1.frozenAt 0
  have c0 : w1.cell? ⟨g, 0, none⟩ = some (.int .i64 (-1)) := by rw [own1.cellAt 0 (by omega), ints_get _ 0 (by simp; omega)]; simp [show 0 < n by omega]
  obtain ⟨st1, st2⟩ := own1.stored 0 (.int .i64 0)
  rw [ints_set, ← Nt.enc_start] at st1
  have HB2 : Hid (Below w.heap.size w (w1.setCell ⟨g, 0, none⟩ (.int .i64 0))) := hide ((hB0.trans (hb1.mono (by omega))).setCell (p := ⟨g, 0, none⟩) hgl _)
  have HO2 := hide (own_low2 st1 (show w.heap.size ≤ g from hgl))
  clear own1 st1 st2 HREP hb1 hB0 hg
  go_wp2_with fail
  refine (nhl_any (by omega)).mono ?_
  rintro e w2 ⟨rfl, hw2⟩
  have hs2 : (w1.setCell ⟨g, 0, none⟩ (.int .i64 0)).heap.size = w1.heap.size := World.size_setCell _ _ _
  have HCF : Hid (CF w n g w1.heap.size 0 0 (Nt.start n) [] w2) := hide (by
    rw [hw2]
    refine ⟨own_below2 HO2.out (below_new _ _), ?_, by omega, by omega, HB2.out.trans ((below_new _ _).mono (by rw [hs2]; omega)), Nt.start_len n⟩
    rw [← hs2, heap_alloc_new]; rfl)
  rw [hs2]
  obtain ⟨C, hC⟩ : ∃ C, C = w1.heap.size := ⟨_, rfl⟩
  rw [← hC] at HCF ⊢
  clear hw2 HB2 HO2 hs2 hC hgz f0 c0 hz
  go_wp2_with fail
  refine (add_eq (x := 0) HCF (by simp; omega)).mono ?_
  rintro e w3 ⟨rfl, hcf3⟩
  have HCF3 := hide hcf3
  clear HCF hcf3
  go_wp2_with fail
  refine (next_eq HCF3).mono ?_
  rintro e w4 h4
  obtain ⟨hcf4, rfl⟩ : CF w n g C 1 1 (Nt.start n) [] w4 ∧ e = .returned (.tuple #[.int .i64 0, .bool true]) := by
    rcases h4 with ⟨x, Q', e1, e2, e3⟩ | ⟨e1, _⟩
    · simp at e1
      obtain ⟨rfl, rfl⟩ := e1
      exact ⟨e3, e2⟩
    · simp at e1
  have HI : Hid (CFo w R n g C (.int .i64 0) (.bool true) w4) := hide ⟨1, 1, _, [], hcf4, Or.inl ⟨0, n, rfl, rfl, by omega, rfl, by rw [show ((0 : Nat) : Int) = 0 from rfl, Nt.start_open (by omega)]; exact Nat.le_refl _, ⟨Nat.le_refl _, by rw [show ((0 : Nat) : Int) = 0 from rfl, Nt.start_open (by omega)]; omega⟩, by simp⟩⟩
  clear hcf4 HCF3 h4
  go_wp2_with fail
  go_loopw [5, 6, 7, 8] (fun s5 s6 _ _ wr => Hid (CFo w R n g C s5 s6 wr)) (fun _ s6 _ _ wr => msr n C s6 wr)
  case atStart => exact HI
  case round =>
    clear HI
    obtain ⟨s, r, M, Q, hcf, hor⟩ := hrel.out
    rcases hor with ⟨p, f, rfl, rfl, hp, hbf, hop, hrr, hmem⟩ | ⟨rfl, hM⟩
    · have HBF := hide hbf
      have HOP := hide hop
      have HMEM := hide hmem
      have HRR := hide hrr
      have HML := hide hcf.len
      have hms : msr n C (.bool true) wr = n + 2 - r := by show n + 2 - rcv C wr = _; rw [hcf.rcv]
      have hT : Nt.open2 M Q + 1 ≤ n := by
        have : Nt.open2 M ((p : Int) :: Q) = Nt.open2 M Q + 1 := by unfold Nt.open2; simp only [List.length_cons]; omega
        omega
      have HCF := hide hcf
      obtain ⟨b, off, ai, ci, rfl, hb, q1, Q1⟩ := H.out.at (i := p) (by rw [HN.out]; exact hp)
      rw [HRW.out p hp] at q1
      have r1 := (hcf.bel.cell (p := ⟨b, off + p, none⟩) hb).trans q1
      have HQ1 := hide Q1
      have p0 : (0 : Int) ≤ (p : Int) := by omega
      have p1 : (p : Int) < (n : Int) := by omega
      clear hcf hbf hop hmem hrr Q1 q1 hrel
      go_wp2_with fail
      go_loopw [7, 8, 36] (fun _ _ sk wq => ∃ (k s' : Nat), sk = .int .i64 k ∧ k ≤ n ∧ Hid (CF w n g C s' r (Nt.scanTo R p M Q k).1 (Nt.scanTo R p M Q k).2 wq)) (fun _ _ sk _ => n - (intOf sk).toNat)
      case atStart => exact ⟨0, s, rfl, Nat.zero_le _, HCF⟩
      case round =>
        clear HCF r1
        obtain ⟨k, s', rfl, hk, HCF⟩ := hrel
        by_cases hkn : k < n
        · obtain ⟨b', o', rfl, r2⟩ := (HQ1.out.below HCF.out.bel).at (i := k) (by rw [HRW.out p hp]; exact hkn)
          have r3 : wr.cell? ⟨b', o' + k, none⟩ = some (.int .i64 (Nt.at2 R p k)) := r2
          obtain ⟨c3, f3⟩ := HCF.out.at hkn
          have k0 : (0 : Int) ≤ (k : Int) := by omega
          have k1 : (k : Int) < (n : Int) := by omega
          have HST : Hid (Nt.scanTo R p M Q (k + 1) = if (Nt.scanTo R p M Q k).1.getD k 0 = -2 ∧ 0 < Nt.at2 R p k then ((Nt.scanTo R p M Q k).1.set k p, (Nt.scanTo R p M Q k).2 ++ [(k : Int)]) else Nt.scanTo R p M Q k) := hide rfl
          have HOPN := hide (Nt.open_pos (M := (Nt.scanTo R p M Q k).1) (Q := (Nt.scanTo R p M Q k).2) (k := k) (by rw [HCF.out.len]; exact hkn))
          have HSO := hide (Nt.scan_open (R := R) (a := (p : Int)) (M := M) (Q := Q) (by omega) k (by rw [HML.out]; omega))
          have HEN := hide (Nt.encF_no ((Nt.scanTo R p M Q k).1.getD k 0))
          generalize Nt.at2 R p k = x at *
          by_cases hx : 0 < x
          · have hx' : ¬ x ≤ 0 := by omega
            by_cases hy : (Nt.scanTo R p M Q k).1.getD k 0 = -2
            · have hq : (Nt.scanTo R p M Q k).2.length < n := by
                have h1 := HOPN.out hy
                have h2 := HSO.out
                omega
              rw [HEN.out.2 hy] at c3
              have HS : Hid (Nt.scanTo R p M Q (k + 1) = ((Nt.scanTo R p M Q k).1.set k p, (Nt.scanTo R p M Q k).2 ++ [(k : Int)])) := hide (by rw [HST.out, if_pos ⟨hy, hx⟩])
              have HC2 := hide (HCF.out.store (k := k) (a := (p : Int)) (by omega))
              generalize hz : wr.setCell ⟨g, k, none⟩ (.int .i64 (p : Int)) = w5 at HC2
              have HZ := hide hz
              clear hy HST HOPN HSO HEN r2 HCF hz
              go_wp2_with fail
              rw [HZ.out]
              refine (add_eq HC2 hq).mono ?_
              rintro e w6 ⟨rfl, hc6⟩
              have HC6 : Hid (CF w n g C (s' + 1) r (Nt.scanTo R p M Q (k + 1)).1 (Nt.scanTo R p M Q (k + 1)).2 w6) := hide (by rw [HS.out]; exact hc6)
              clear hc6 HC2 HS
              go_wp2_with fail
              go_roundw
              case rel => exact ⟨k + 1, s' + 1, by go_num, by omega, HC6⟩
              case measure => simp only [intOf]; omega
            · have HC6 : Hid (CF w n g C s' r (Nt.scanTo R p M Q (k + 1)).1 (Nt.scanTo R p M Q (k + 1)).2 wr) := hide (by rw [HST.out, if_neg (fun h => hy h.1)]; exact HCF.out)
              have hb1 : (Nt.encF ((Nt.scanTo R p M Q k).1.getD k 0) == (-1 : Int)) = false := by
                rw [beq_eq_false_iff_ne]; exact fun e => hy (HEN.out.1 e)
              generalize Nt.encF ((Nt.scanTo R p M Q k).1.getD k 0) = z at *
              clear hy HST HOPN HSO HEN r2 HCF
              go_wp2_with fail
              go_roundw
              case rel => exact ⟨k + 1, s', by go_num, by omega, HC6⟩
              case measure => simp only [intOf]; omega
          · have hx' : x ≤ 0 := by omega
            have HC6 : Hid (CF w n g C s' r (Nt.scanTo R p M Q (k + 1)).1 (Nt.scanTo R p M Q (k + 1)).2 wr) := hide (by rw [HST.out, if_neg (fun h => hx h.2)]; exact HCF.out)
            clear HST HOPN HSO HEN r2 HCF
            go_wp2_with fail
            go_roundw
            case rel => exact ⟨k + 1, s', by go_num, by omega, HC6⟩
            case measure => simp only [intOf]; omega
        · have hke : k = n := by omega
          subst hke
          go_wp2_with fail
          refine (next_eq HCF).mono ?_
          rintro e w7 h7
          obtain ⟨x, t, rfl, hcfo, hm7⟩ := cf_next HML.out HBF.out HOP.out HRR.out HMEM.out h7
          have HCFO := hide hcfo
          have HM7 := hide hm7
          have HMS := hide hms
          clear hcfo hm7 hms h7
          go_wp2_with fail
          go_roundw
          case rel => exact HCFO
          case measure => rw [HMS.out]; exact HM7.out
    · have HO : Hid (wr.ownsRow w.heap.size 3 1 (.slice (some ⟨g, 0, none⟩) n n) n (ints (Nt.enc (Nt.come R n)))) := hide (by rw [← hM]; exact hcf.own)
      have HB := hide hcf.bel
      clear hcf hM
      go_wp2_with fail
      go_ret
      exact ⟨g, rfl, HO.out, HB.out⟩
end Go.Proofs.Ytdpjkblondoimab
namespace Go.Proofs.Ytdpjkblondoimab
open Go.RowKit

theorem own_full {w : World} {base e g n c : Nat} {xs : List Value} (h : w.ownsRow base e 1 (.slice (some ⟨g, 0, none⟩) n c) n xs) : n ≤ c ∧ ∃ ys, ys.length = c ∧ ys.take n = xs ∧ w.ownsRow base e 1 (.slice (some ⟨g, 0, none⟩) c c) c ys := by
  rcases h.2 with ⟨h', _⟩ | ⟨g', cap', cur, h', hb, hg, hnc, hcm, hcs, htake⟩
  · simp at h'
  · simp only [Value.slice.injEq, Option.some.injEq, Addr.mk.injEq, and_true, true_and] at h'
    obtain ⟨rfl, rfl⟩ := h'
    rw [Nat.mul_one] at hcs htake
    exact ⟨hnc, cur.toList, by simpa using hcs, htake, by simpa using hcs, Or.inr ⟨g, c, cur, rfl, hb, hg, Nat.le_refl _, hcm, by rw [Nat.mul_one]; exact hcs, by rw [Nat.mul_one]; exact List.take_of_length_le (by simp [hcs])⟩⟩
theorem own_prefix {w : World} {base e g n c : Nat} {ys : List Value} (h : w.ownsRow base e 1 (.slice (some ⟨g, 0, none⟩) c c) c ys) (hn : n ≤ c) : w.ownsRow base e 1 (.slice (some ⟨g, 0, none⟩) n c) n (ys.take n) := by
  have hl := h.1
  rcases h.2 with ⟨h', _⟩ | ⟨g', cap', cur, h', hb, hg, hnc, hcm, hcs, htake⟩
  · simp at h'
  · simp only [Value.slice.injEq, Option.some.injEq, Addr.mk.injEq, and_true, true_and] at h'
    obtain ⟨rfl, rfl⟩ := h'
    rw [Nat.mul_one] at hcs htake hl
    refine ⟨by rw [List.length_take]; omega, Or.inr ⟨g, c, cur, rfl, hb, hg, hn, hcm, by rw [Nat.mul_one]; exact hcs, ?_⟩⟩
    rw [← htake, Nat.mul_one, List.take_take, Nat.min_eq_left hn]
def setL (xs : List Value) : Nat → List Value → List Value
  | _, [] => xs
  | o, v :: r => setL (xs.set o v) (o + 1) r
theorem setL_len : ∀ (vs xs : List Value) (o : Nat), (setL xs o vs).length = xs.length
  | [], _, _ => rfl
  | v :: r, xs, o => by rw [setL, setL_len r]; simp
theorem setL_eq : ∀ (vs xs : List Value) (o : Nat), o + vs.length ≤ xs.length → setL xs o vs = xs.take o ++ vs ++ xs.drop (o + vs.length)
  | [], xs, o, _ => by simp [setL]
  | v :: r, xs, o, h => by
    simp only [List.length_cons] at h
    rw [setL, setL_eq r _ _ (by simp; omega), List.take_succ_eq_append_getElem (by simp; omega)]
    simp only [List.length_cons, List.getElem_set_self, List.take_set_of_le (Nat.le_refl o)]
    rw [List.drop_set_of_lt (by omega), show o + 1 + r.length = o + (r.length + 1) by omega]
    simp
theorem own_cells {base e g N : Nat} : ∀ (vs xs : List Value) (o : Nat) (w : World), w.ownsRow base e 1 (.slice (some ⟨g, 0, none⟩) N N) N xs → (w.setCells g o vs).ownsRow base e 1 (.slice (some ⟨g, 0, none⟩) N N) N (setL xs o vs) ∧ Below base w (w.setCells g o vs)
  | [], _, _, w, h => ⟨h, Below.refl _ _⟩
  | v :: r, xs, o, w, h => by
    have h1 := (h.stored o v).1
    have h2 := own_cells r (xs.set o v) (o + 1) _ h1
    exact ⟨h2.1, ((Below.refl base w).setCell (p := ⟨g, o, none⟩) (h.lt g rfl).1 v).trans h2.2⟩
theorem own_drew {w : World} {base e s n : Nat} {v : Value} {xs : List Value} (h : w.ownsRow base e s v n xs) : w.drew.ownsRow base e s v n xs := own_keep2 h fun _ _ _ => rfl
end Go.Proofs.Ytdpjkblondoimab
namespace Go.Proofs.Ytdpjkblondoimab
open Go.Conc Go.RowKit

set_option maxHeartbeats 1000000 in
theorem ins13 {W : World} {base b n c : Nat} {P : List Int} {x : Int} (own : W.ownsRow base 3 1 (.slice (some ⟨b, 0, none⟩) n c) n (ints P)) (hn : P.length = n) (h1 : 1 ≤ n) (h9 : n ≤ 1000) (hb : base ≤ W.heap.size) :
    Calls Try.prog 40 #[.slice (some ⟨b, 0, none⟩) n c, .int .i64 0, .slice (some ⟨W.heap.size, 0, none⟩) 1 1] (W.alloc (.cells #[.int .i64 x] 3)) fun e w' =>
      ∃ b' c', e = .returned (.slice (some ⟨b', 0, none⟩) (n + 1) c') ∧ w'.ownsRow base 3 1 (.slice (some ⟨b', 0, none⟩) (n + 1) c') (n + 1) (ints (x :: P)) ∧ Below base W w' := by
  have own1 := own.alloc (.cells #[.int .i64 x] 3)
  obtain ⟨hbl, hbu⟩ := own.lt b rfl
  obtain ⟨hnc, ys, hyl, hyt, hfull⟩ := own_full own1
  have hcm : c ≤ maxLen := by
    rcases own.2 with ⟨h', _⟩ | ⟨g', cap', cur, h', _, _, _, h4, _⟩
    · simp at h'
    · cases h'; exact h4
  have hPl : (ints P).length = n := by simp [ints, hn]
  have hcs : ∀ j v, (ints P)[j]? = some v → (W.alloc (.cells #[.int .i64 x] 3)).cell? ⟨b, 0 + j, none⟩ = some v := fun j v h => by
    have hj : j < n := by have := (List.getElem?_eq_some_iff.1 h).1; omega
    rw [Nat.zero_add, own1.cellAt j (by omega)]; exact h
  have hvs : ∀ j v, ([Value.int .i64 x])[j]? = some v → (W.alloc (.cells #[.int .i64 x] 3)).cell? ⟨W.heap.size, 0 + j, none⟩ = some v := fun j v h => by
    have hj : j = 0 := by have := (List.getElem?_eq_some_iff.1 h).1; simpa using this
    subst hj
    simp at h
    subst h
    simp
  have h1c : ∀ v ∈ ints P, v.oneCell' = true := fun v hv => by
    obtain ⟨y, _, rfl⟩ := List.mem_map.1 hv; rfl
  have h1v : ∀ v ∈ [Value.int .i64 x], v.oneCell' = true := fun v hv => by simp at hv; subst hv; rfl
  have hB0 : Below base W (W.alloc (.cells #[.int .i64 x] 3)) := (below_new W _).mono hb
  unfold maxLen at hcm
  by_cases hroom : n + 1 ≤ c
  · refine Calls.mono (R := fun e w' => e = .returned (.slice (some ⟨b, 0, none⟩) (n + 1) c) ∧ w' = ((W.alloc (.cells #[.int .i64 x] 3)).drew.setCells b (0 + (0 + 1)) ((ints P).drop 0)).setCells b (0 + 0) [.int .i64 x]) ?_ ?_
    · exact Any2.slices_Insert_int_shift Try.lays2n21 b 0 n c 0 W.heap.size 0 1 1 (ints P) [.int .i64 x] _ (by omega) (by omega) hroom (by omega) (by omega) hPl rfl hcs
        (fun j hj => by rw [Nat.zero_add, hfull.cellAt j (by omega), List.getElem?_eq_getElem (by omega)]; rfl)
        (fun j _ => hfull.frozenAt _) hvs h1c h1v 3 3 1 c (by unfold World.shape?; rw [heap_alloc_new]; rfl) (by
          rcases hfull.2 with ⟨h', _⟩ | ⟨g', cap', cur, h', _, hg, _, _, hcs', _⟩
          · simp at h'
          · cases h'
            unfold World.shape?
            rw [hg]
            simp only [Nat.mul_one] at hcs'
            rw [← hcs']) (by omega) (by unfold World.frozen?; simp only [heap_alloc_new]; rfl) (by unfold World.frozen?; simp only [heap_alloc_new]; rfl)
    · rintro e w' ⟨rfl, rfl⟩
      have d1 := own_drew hfull
      obtain ⟨o1, b1⟩ := own_cells (ints P) ys 1 _ d1
      obtain ⟨o2, b2⟩ := own_cells [.int .i64 x] (setL ys 1 (ints P)) 0 _ o1
      refine ⟨b, c, rfl, ?_, (hB0.drew.trans b1).trans b2⟩
      have := own_prefix o2 hroom
      have e1 : (setL (setL ys 1 (ints P)) 0 [.int .i64 x]).take (n + 1) = ints (x :: P) := by
        obtain ⟨y, ys', rfl⟩ : ∃ y ys', ys = y :: ys' := by
          cases ys with
          | nil => simp at hyl; omega
          | cons y ys' => exact ⟨y, ys', rfl⟩
        rw [setL_eq [.int .i64 x] _ _ (by rw [setL_len]; simp), setL_eq (ints P) _ _ (by omega), hPl]
        simp [ints, hn]
      rw [e1] at this
      exact this
  · refine Calls.mono (R := fun e w' => e = .returned (.slice (some ⟨(W.alloc (.cells #[.int .i64 x] 3)).heap.size, 0, none⟩) (n + 1) (grownCap (W.alloc (.cells #[.int .i64 x] 3)) (n + 1) c 3)) ∧
        w' = ((((W.alloc (.cells #[.int .i64 x] 3)).alloc (.cells (((ints P).take 0).toArray ++ Builtin.zeroCells (Value.int .i64 0).cells (n + 1 - 0) ++ Builtin.zeroCells (Value.int .i64 0).cells (grownCap (W.alloc (.cells #[.int .i64 x] 3)) (n + 1) c 3 - (n + 1))) 3)).drew.setCells (W.alloc (.cells #[.int .i64 x] 3)).heap.size 0 [.int .i64 x]).drew).setCells (W.alloc (.cells #[.int .i64 x] 3)).heap.size (0 + 1) ((ints P).drop 0)) ?_ ?_
    · exact Any2.slices_Insert_int_grow Try.lays2n21 b 0 n c 0 W.heap.size 0 1 1 (ints P) [.int .i64 x] _ (by omega) (by omega) hnc (by omega) (by omega) hPl rfl hcs hvs h1c h1v
    · rintro e w' ⟨rfl, rfl⟩
      obtain ⟨cap, hcap⟩ : ∃ cap, cap = grownCap (W.alloc (.cells #[.int .i64 x] 3)) (n + 1) c 3 := ⟨_, rfl⟩
      have hge : n + 1 ≤ cap := by rw [hcap]; exact grownCap_ge _ _ _ _
      have hle : cap ≤ maxLen := by rw [hcap]; exact grownCap_le_maxLen _ _ _ _ (by unfold maxLen; omega)
      rw [← hcap]
      obtain ⟨arr, harr⟩ : ∃ arr, arr = ((ints P).take 0).toArray ++ Builtin.zeroCells (Value.int .i64 0).cells (n + 1 - 0) ++ Builtin.zeroCells (Value.int .i64 0).cells (cap - (n + 1)) := ⟨_, rfl⟩
      have hsz : arr.size = cap := by rw [harr]; simp [Builtin.zeroCells, Value.cells]; omega
      rw [← harr]
      have o0 := World.ownsRow_lit (base := base) (e := 3) (size := 1) (W.alloc (.cells #[.int .i64 x] 3)) arr cap (Nat.le_trans hb (by simp)) hle (by rw [Nat.mul_one]; exact hsz)
      have b0 : Below base W ((W.alloc (.cells #[.int .i64 x] 3)).alloc (.cells arr 3)) := hB0.trans ((below_new _ _).mono (Nat.le_trans hb (by simp)))
      obtain ⟨o1, b1⟩ := own_cells [.int .i64 x] arr.toList 0 _ (own_drew o0)
      obtain ⟨o2, b2⟩ := own_cells (ints P) _ 1 _ (own_drew o1)
      refine ⟨_, cap, rfl, ?_, ((b0.drew.trans b1).drew.trans b2)⟩
      have := own_prefix o2 hge
      have hal : arr.toList.length = cap := by simpa using hsz
      have e1 : (setL (setL arr.toList 0 [.int .i64 x]) 1 (ints P)).take (n + 1) = ints (x :: P) := by
        obtain ⟨y, ys', hy⟩ : ∃ y ys', arr.toList = y :: ys' := by
          cases h : arr.toList with
          | nil => rw [h] at hal; simp at hal; omega
          | cons y ys' => exact ⟨y, ys', rfl⟩
        rw [hy] at hal ⊢
        simp only [List.length_cons] at hal
        rw [setL_eq (ints P) _ _ (by rw [setL_len]; simp only [List.length_cons]; omega), setL_eq [.int .i64 x] _ _ (by simp), hPl]
        simp [ints, hn]
      rw [e1] at this
      exact this
end Go.Proofs.Ytdpjkblondoimab
namespace Go.Proofs.Ytdpjkblondoimab
open Go.RowKit

def lenL (n : Nat) (v : Value) : Nat := match v with
  | .slice _ l _ => n + 1 - l
  | _ => 0
/-- On the way back: hall j of those that came, and what lies behind it. -/
structure Wb (R : List (List Int)) (n : Nat) (M H : List Int) (j f : Nat) (out : List Int) : Prop where
  bi : Nt.Bi R n M H H.length 0
  lt : j < H.length
  few : H.length ≤ n
  fuel : j + 2 ≤ f
  len : out.length + j + 1 ≤ n
  back : Nt.back M f (H.getD j 0) out = Nt.wayM M n
theorem Wb.start {R : List (List Int)} {n : Nat} (hn : 2 ≤ n) (h : (Nt.come R n).getD (n - 1) 0 ≠ -2) : ∃ H j, Wb R n (Nt.come R n) H j (n + 1) [] ∧ H.getD j 0 = (n : Int) - 1 := by
  obtain ⟨H, hb⟩ := Nt.come_inv R (n := n) (by omega)
  obtain ⟨j, hj, ej⟩ := (hb.mem (n - 1) (by omega)).1 h
  have hfew : H.length ≤ n := Nt.few hb.lo hb.nd
  have e : H.getD j 0 = (n : Int) - 1 := by rw [ej]; omega
  exact ⟨H, j, ⟨hb, hj, hfew, by omega, by simp; omega, by rw [Nt.wayM, if_neg h, e]⟩, e⟩
theorem Wb.zero {R : List (List Int)} {n : Nat} {M H out : List Int} {f : Nat} (h : Wb R n M H 0 f out) : H.getD 0 0 = 0 ∧ Nt.wayM M n = 0 :: out := by
  refine ⟨h.bi.h0, ?_⟩
  obtain ⟨f, rfl⟩ : ∃ g, f = g + 2 := ⟨f - 2, by have := h.fuel; omega⟩
  have := h.back
  rw [h.bi.h0, Nt.back, if_neg (by omega), Nt.back, if_pos (by rw [show (0 : Int).toNat = 0 from rfl, h.bi.m0]; omega)] at this
  exact this.symm
theorem Wb.step {R : List (List Int)} {n : Nat} {M H out : List Int} {j f : Nat} (h : Wb R n M H j f out) (hj : j ≠ 0) : ∃ (p q : Nat) (l g : Nat), H.getD j 0 = (p : Int) ∧ p ≠ 0 ∧ p < n ∧ M.getD p 0 = (q : Int) ∧ q < n ∧ H.getD l 0 = (q : Int) ∧ Wb R n M H l g ((p : Int) :: out) := by
  obtain ⟨l, hl, e1, _⟩ := h.bi.par j (by omega) h.lt
  have h1 := h.bi.lo j h.lt
  have h2 := h.bi.lo l (by have := h.lt; omega)
  have hne := h.bi.nd j 0 h.lt h.bi.pos hj
  rw [h.bi.h0] at hne
  obtain ⟨p, ep⟩ : ∃ p : Nat, H.getD j 0 = (p : Int) := ⟨(H.getD j 0).toNat, by omega⟩
  obtain ⟨q, eq⟩ : ∃ q : Nat, H.getD l 0 = (q : Int) := ⟨(H.getD l 0).toNat, by omega⟩
  obtain ⟨f, rfl⟩ : ∃ g, f = g + 1 := ⟨f - 1, by have := h.fuel; omega⟩
  have hbk := h.back
  rw [ep, Nt.back, if_neg (by omega), Int.toNat_natCast] at hbk
  rw [ep, eq, Int.toNat_natCast] at e1
  rw [e1] at hbk
  refine ⟨p, q, l, f, ep, by omega, by omega, e1, by omega, eq, h.bi, by have := h.lt; omega, h.few, by have := h.fuel; omega, ?_, by rw [eq]; exact hbk⟩
  have := h.len
  simp only [List.length_cons]
  omega
end Go.Proofs.Ytdpjkblondoimab
namespace Go.Proofs.Ytdpjkblondoimab
open Go.RowKit

set_option maxRecDepth 100000 in
set_option maxHeartbeats 4000000 in
theorem wt_no {a : Option Addr} {n c : Nat} {R : List (List Int)} {w : World} (HN : Hid (R.length = n)) (h2 : 2 ≤ n) (h8 : n ≤ 8) (HRW : Hid (∀ i, i < n → (R.getD i []).length = n)) (H : Hid (CRow w a R)) (HM : Hid ((Nt.come R n).getD (n - 1) 0 = -2)) :
    Calls Try.prog 23 #[.slice a n c] w fun e w' => e = .returned (.slice none 0 0) ∧ Below w.heap.size w w' := by
  have kc : (n : Int) - 1 = ((n - 1 : Nat) : Int) := by omega
  have k0 : (0 : Int) ≤ (n : Int) - 1 := by omega
  have k1 : (n : Int) - 1 < (n : Int) := by omega
  have kt : ((n : Int) - 1).toNat = n - 1 := by omega
  go_enter Try.func23, Try.ntmps23
  go_wp2_with fail
  refine (cam_any HN h2 h8 HRW H).mono ?_
  rintro e w1 ⟨g, rfl, own, hb⟩
  have c0 : w1.cell? ⟨g, ((n : Int) - 1).toNat, none⟩ = some (.int .i64 (-1)) := by
    have hl : (Nt.come R n).length = n := by obtain ⟨H, hb⟩ := Nt.come_inv R (n := n) (by omega); exact hb.len
    rw [kt, own.cellAt (n - 1) (by omega), ints_get _ (n - 1) (by rw [Nt.enc_len, hl]; omega), Nt.enc_at (by rw [hl]; omega), HM.out]
    rfl
  have c0' := c0
  rw [kt] at c0'
  clear own kc
  go_wp2_with fail
  go_ret
  exact ⟨rfl, hb⟩
set_option maxRecDepth 100000 in
set_option maxHeartbeats 4000000 in
theorem wt_yes {a : Option Addr} {n c : Nat} {R : List (List Int)} {w : World} (HN : Hid (R.length = n)) (h2 : 2 ≤ n) (h8 : n ≤ 8) (HRW : Hid (∀ i, i < n → (R.getD i []).length = n)) (H : Hid (CRow w a R)) (HM : Hid ((Nt.come R n).getD (n - 1) 0 ≠ -2)) :
    Calls Try.prog 23 #[.slice a n c] w fun e w' => ∃ v, e = .returned v ∧ w'.ownsRow w.heap.size 3 1 v (Nt.wayM (Nt.come R n) n).length (ints (Nt.wayM (Nt.come R n) n)) ∧ Below w.heap.size w w' := by
  have k0 : (0 : Int) ≤ (n : Int) - 1 := by omega
  have k1 : (n : Int) - 1 < (n : Int) := by omega
  have kt : ((n : Int) - 1).toNat = n - 1 := by omega
  obtain ⟨HH, j0, hwb, ej⟩ := Wb.start (R := R) h2 HM.out
  have HWB := hide hwb
  have HEJ := hide ej
  have hl : Hid ((Nt.come R n).length = n) := hide hwb.bi.len
  clear hwb ej
  go_enter Try.func23, Try.ntmps23
  go_wp2_with fail
  refine (cam_any HN h2 h8 HRW H).mono ?_
  rintro e w1 ⟨g, rfl, own, hb⟩
  have HAT : Hid (∀ (W : World) (i : Nat), Below w1.heap.size w1 W → i < n → W.cell? ⟨g, i, none⟩ = some (.int .i64 (Nt.encF ((Nt.come R n).getD i 0)))) := hide fun W i hW hi => by
    rw [(own_below2 own hW).cellAt i (by omega), ints_get _ i (by rw [Nt.enc_len, hl.out]; exact hi), Nt.enc_at (by rw [hl.out]; exact hi)]
  have HBE := hide hb
  clear own hb
  have c0 := HAT.out w1 (n - 1) (Below.refl _ _) (by omega)
  rw [← kt] at c0
  have hne : (Nt.encF ((Nt.come R n).getD ((n : Int) - 1).toNat 0) == (-1 : Int)) = false := by
    rw [beq_eq_false_iff_ne, kt]; exact fun e => HM.out ((Nt.encF_no _).1 e)
  generalize Nt.encF ((Nt.come R n).getD ((n : Int) - 1).toNat 0) = z at c0 hne
  have c0' := c0
  rw [kt] at c0'
  have HO0 : Hid ((w1.alloc (.cells #[.int .i64 ((n : Int) - 1)] 3)).ownsRow w1.heap.size 3 1 (.slice (some ⟨w1.heap.size, 0, none⟩) 1 1) 1 (ints [(n : Int) - 1])) := hide (by
    have := World.ownsRow_lit (base := w1.heap.size) (e := 3) (size := 1) w1 #[.int .i64 ((n : Int) - 1)] 1 (Nat.le_refl _) (by unfold maxLen; omega) rfl
    exact this)
  have HB0 := hide (below_new w1 (.cells #[.int .i64 ((n : Int) - 1)] 3))
  go_wp2_with fail
  go_loopw [5] (fun s5 wr => ∃ (b c' j f : Nat) (out : List Int), s5 = .slice (some ⟨b, 0, none⟩) (out.length + 1) c' ∧ Hid (wr.ownsRow w1.heap.size 3 1 (.slice (some ⟨b, 0, none⟩) (out.length + 1) c') (out.length + 1) (ints (HH.getD j 0 :: out))) ∧ Hid (Wb R n (Nt.come R n) HH j f out) ∧ Hid (Below w1.heap.size w1 wr)) (fun s5 _ => lenL n s5)
  case atStart => exact ⟨w1.heap.size, 1, j0, n + 1, [], rfl, hide (by rw [HEJ.out]; exact HO0.out), HWB, HB0⟩
  case round =>
    clear HO0 HB0 HWB c0 c0' hne
    obtain ⟨b, c', j, f, out, rfl, HO, HW, HB⟩ := hrel
    have hlen := HW.out.len
    have hj := HW.out.fuel
    obtain ⟨m, hm⟩ : ∃ m, out.length = m := ⟨_, rfl⟩
    rw [hm] at HO hlen ⊢
    have HM2 := hide hm
    clear hm
    have m0 : (0 : Int) < (m : Int) + 1 := by omega
    by_cases h0 : j = 0
    · subst h0
      obtain ⟨z1, z2⟩ := HW.out.zero
      have d0 : wr.cell? ⟨b, 0, none⟩ = some (.int .i64 0) := by rw [HO.out.cellAt 0 (by omega), z1]; rfl
      have HE : Hid (wr.ownsRow w.heap.size 3 1 (.slice (some ⟨b, 0, none⟩) (m + 1) c') (Nt.wayM (Nt.come R n) n).length (ints (Nt.wayM (Nt.come R n) n))) := hide (by
        rw [z2, List.length_cons, HM2.out, ← z1]
        exact own_low2 HO.out HBE.out.size)
      have HBX := hide (HBE.out.trans (HB.out.mono HBE.out.size))
      clear z1 z2
      go_wp2_with fail
      go_ret
      exact ⟨_, rfl, HE.out, HBX.out⟩
    · obtain ⟨p, q, l, f', ep, hp0, hpn, eq, hqn, el, hwb2⟩ := HW.out.step h0
      have d0 : wr.cell? ⟨b, 0, none⟩ = some (.int .i64 (p : Int)) := by rw [HO.out.cellAt 0 (by omega), ep]; rfl
      have d1 := HAT.out wr p HB.out hpn
      rw [eq, Nt.encF_nn (by omega)] at d1
      have hpe : ((p : Int) != 0) = true := by simp; omega
      have p0 : (0 : Int) ≤ (p : Int) := by omega
      have p1 : (p : Int) < (n : Int) := by omega
      have HWB2 := hide hwb2
      have HO2 : Hid (wr.ownsRow w1.heap.size 3 1 (.slice (some ⟨b, 0, none⟩) (m + 1) c') (m + 1) (ints ((p : Int) :: out))) := hide (by rw [← ep]; exact HO.out)
      have HEL := hide el
      clear hwb2 el ep eq HO HW
      go_wp2_with fail
      refine (ins13 HO2.out (by simp [HM2.out]) (by omega) (by omega) HB.out.size).mono ?_
      rintro e w5 ⟨b5, c5, rfl, own5, hb5⟩
      have HO5 : Hid (w5.ownsRow w1.heap.size 3 1 (.slice (some ⟨b5, 0, none⟩) (((p : Int) :: out).length + 1) c5) (((p : Int) :: out).length + 1) (ints (HH.getD l 0 :: (p : Int) :: out))) := hide (by
        rw [HEL.out, List.length_cons, HM2.out]; exact own5)
      have HB5 := hide (HB.out.trans hb5)
      clear own5 hb5
      go_wp2_with fail
      go_roundw
      case rel => exact ⟨b5, c5, l, f', (p : Int) :: out, by simp [HM2.out], HO5, HWB2, HB5⟩
      case measure => have := HM2.out; simp only [lenL]; omega
theorem wt_any {a : Option Addr} {n c : Nat} {R : List (List Int)} {w : World} (HN : Hid (R.length = n)) (h2 : 2 ≤ n) (h8 : n ≤ 8) (HRW : Hid (∀ i, i < n → (R.getD i []).length = n)) (H : Hid (CRow w a R)) :
    Calls Try.prog 23 #[.slice a n c] w fun e w' => ∃ v, e = .returned v ∧ w'.ownsRow w.heap.size 3 1 v (Nt.wayM (Nt.come R n) n).length (ints (Nt.wayM (Nt.come R n) n)) ∧ Below w.heap.size w w' := by
  by_cases h : (Nt.come R n).getD (n - 1) 0 = -2
  · refine (wt_no HN h2 h8 HRW H (hide h)).mono fun e w' ⟨h1, h2⟩ => ⟨_, h1, ?_, h2⟩
    rw [Nt.way_no h]
    exact World.ownsRow_nil _ _ _ _
  · exact wt_yes HN h2 h8 HRW H (hide h)
end Go.Proofs.Ytdpjkblondoimab
namespace Go.Proofs.Ytdpjkblondoimab
open Go.RowKit

theorem take_mid {α : Type} (l : List α) (x : α) (r : List α) : (l ++ x :: r).take (l.length + 1) = l ++ [x] := by
  induction l with
  | nil => simp
  | cons a l ih => simpa using ih
/-- A line: its numbers lie from i on in a block of its own. -/
def QQ (W : World) (base : Nat) (v : Value) (Q : List Int) : Prop := ∃ g i c ys, v = .slice (some ⟨g, i, none⟩) Q.length c ∧ Q.length ≤ c ∧ (c = 0 ∨ i + c = ys.length) ∧ W.ownsRow base 3 1 (.slice (some ⟨g, 0, none⟩) ys.length ys.length) ys.length ys ∧ (ys.drop i).take Q.length = ints Q
theorem QQ.keep {W W' : World} {base : Nat} {v : Value} {Q : List Int} (h : QQ W base v Q) (hb : ∀ g, base ≤ g → g < W.heap.size → W'.heap[g]? = W.heap[g]?) : QQ W' base v Q := by
  obtain ⟨g, i, c, ys, h1, h2, h3, h4, h5⟩ := h
  exact ⟨g, i, c, ys, h1, h2, h3, own_keep2 h4 fun b hv hl => hb b (h4.lt b hv).1 hl, h5⟩
theorem QQ.below {W W' : World} {base : Nat} {v : Value} {Q : List Int} (h : QQ W base v Q) (hb : Below W.heap.size W W') : QQ W' base v Q := h.keep fun g _ hl => hb.block g hl
theorem QQ.len {W : World} {base : Nat} {v : Value} {Q : List Int} (h : QQ W base v Q) : ∃ a c, v = .slice a Q.length c := by
  obtain ⟨g, i, c, _, h1, _⟩ := h
  exact ⟨_, c, h1⟩
theorem QQ.one (w : World) (x : Int) : QQ (w.alloc (.cells #[.int .i64 x] 3)) w.heap.size (.slice (some ⟨w.heap.size, 0, none⟩) 1 1) [x] := by
  have := World.ownsRow_lit (base := w.heap.size) (e := 3) (size := 1) w #[.int .i64 x] 1 (Nat.le_refl _) (by unfold maxLen; omega) rfl
  exact ⟨w.heap.size, 0, 1, [.int .i64 x], rfl, by simp, Or.inr rfl, this, rfl⟩
/-- The first one. -/
theorem QQ.head {W : World} {base : Nat} {v : Value} {a : Int} {Q : List Int} (h : QQ W base v (a :: Q)) : ∃ g i c, v = .slice (some ⟨g, i, none⟩) (Q.length + 1) c ∧ Q.length + 1 ≤ c ∧ W.cell? ⟨g, i, none⟩ = some (.int .i64 a) ∧ (c = 1 → QQ W base (.slice (some ⟨g, i, none⟩) Q.length 0) Q) ∧ (c ≠ 1 → QQ W base (.slice (some ⟨g, i + 1, none⟩) Q.length (c - 1)) Q) := by
  obtain ⟨g, i, c, ys, h1, h2, h3, h4, h5⟩ := h
  simp only [List.length_cons] at h1 h2 h5
  have hic : i + c = ys.length := by omega
  have hd : ys.drop i = ys[i]'(by omega) :: ys.drop (i + 1) := List.drop_eq_getElem_cons (by omega)
  rw [hd, List.take_succ_cons] at h5
  have e1 : ys[i]'(by omega) = .int .i64 a := (List.cons.inj h5).1
  have e2 : (ys.drop (i + 1)).take Q.length = ints Q := (List.cons.inj h5).2
  refine ⟨g, i, c, h1, h2, ?_, fun hc => ?_, fun hc => ?_⟩
  · rw [h4.cellAt i (by omega), List.getElem?_eq_getElem (by omega), e1]
  · have : Q = [] := List.length_eq_zero_iff.1 (by omega)
    subst this
    exact ⟨g, i, 0, ys, rfl, Nat.le_refl _, Or.inl rfl, h4, by simp [ints]⟩
  · exact ⟨g, i + 1, c - 1, ys, rfl, by omega, Or.inr (by omega), h4, e2⟩
theorem QQ.push {W : World} {base : Nat} {v : Value} {Q : List Int} {x : Int} (h : QQ W base v Q) (hb : base ≤ W.heap.size) (hq : Q.length ≤ 1000) :
    ∃ v' w', (∀ ty, (Builtin.append_ #[24, 24] ty #[v, .slice (some ⟨W.heap.size, 0, none⟩) 1 1]).run Try.prog (W.alloc (.cells #[.int .i64 x] 3)) = .ok v' w') ∧ QQ w' base v' (Q ++ [x]) ∧ Below base W w' := by
  obtain ⟨g, i, c, ys, rfl, h2, h3, h4, h5⟩ := h
  obtain ⟨i0, hi, hz0, hz1, hz2⟩ := infoI
  have h4' := h4.alloc (.cells #[.int .i64 x] 3)
  have hB0 : Below base W (W.alloc (.cells #[.int .i64 x] 3)) := (below_new W _).mono hb
  have hs : Src Try.prog i0.size 24 (.slice (some ⟨W.heap.size, 0, none⟩) 1 1) 1 [.int .i64 x] (W.alloc (.cells #[.int .i64 x] 3)) := Src.ofSlice _ Try.underlying24 ⟨W.heap.size, 0, none⟩ 1 1 [.int .i64 x] (by rw [hz1]; rfl) (fun j u hj => by
    have hj0 : j = 0 := by have := (List.getElem?_eq_some_iff.1 hj).1; simpa using this
    subst hj0
    simp at hj
    subst hj
    rw [add_plain']
    simp) (fun u hu => by simp at hu; subst hu; rfl)
  have hlq : (ints Q).length = Q.length := by simp [ints]
  by_cases hroom : Q.length + 1 ≤ c
  · have hic : i + c = ys.length := by omega
    have hr := fun ty => run_append_room_src (P := Try.prog) (W.alloc (.cells #[.int .i64 x] 3)) 24 24 ty 3 i0 Try.underlying24 hi g i Q.length c _ 1 [.int .i64 x] hs hroom (fun j hj => by
      simp at hj; subst hj
      rw [hz1, Nat.mul_one, Nat.add_zero, h4'.cellAt (i + Q.length) (by omega), List.getElem?_eq_getElem (by omega)]; rfl) (fun j _ => h4'.frozenAt _)
    rw [hz1, Nat.mul_one] at hr
    obtain ⟨o1, b1⟩ := own_cells [.int .i64 x] ys (i + Q.length) _ h4'
    refine ⟨_, _, hr, ⟨g, i, c, setL ys (i + Q.length) [.int .i64 x], by rw [List.length_append]; rfl, by rw [List.length_append]; exact hroom, Or.inr (by rw [setL_len]; exact hic), by rw [setL_len]; exact o1, ?_⟩, hB0.trans b1⟩
    rw [setL_eq _ _ _ (by simp; omega), List.append_assoc, List.drop_append, List.length_append]
    have e1 : (ys.take (i + Q.length)).length = i + Q.length := by rw [List.length_take]; omega
    have e2 : (ys.take (i + Q.length)).drop i = ints Q := by
      rw [List.drop_take, show i + Q.length - i = Q.length by omega]; exact h5
    rw [e2, e1, show i - (i + Q.length) = 0 by omega, List.drop_zero]
    rw [← hlq]
    have := take_mid (ints Q) (Value.int .i64 x) (ys.drop (i + (ints Q).length + 1))
    simpa [ints] using this
  · have hfull : Q.length = c := by omega
    have hold : (Builtin.firstCells i0.size Q.length (.slice (some ⟨g, i, none⟩) Q.length c)).run Try.prog (W.alloc (.cells #[.int .i64 x] 3)).drew = .ok (ints Q).toArray (W.alloc (.cells #[.int .i64 x] 3)).drew := by
      refine run_firstCells_some _ i0.size Q.length ⟨g, i, none⟩ Q.length c (ints Q) (by rw [hz1, Nat.mul_one, hlq]) fun j u hj => ?_
      have hjl : j < Q.length := by have := (List.getElem?_eq_some_iff.1 hj).1; omega
      rw [add_plain']
      have hic : i + c = ys.length := by omega
      rw [(own_drew h4').cellAt (i + j) (by omega), ← hj, ← h5, List.getElem?_take_of_lt hjl, List.getElem?_drop]
    have hcap : c ≤ 1000 := by omega
    have hr := fun ty => run_append_grow_src (P := Try.prog) (W.alloc (.cells #[.int .i64 x] 3)) 24 24 ty 3 i0 _ Try.underlying24 hi hz0 (some ⟨g, i, none⟩) Q.length c (ints Q) hold _ 1 [.int .i64 x] hs (by omega) (by omega) (by
      have := nextslicecap_le (need := Q.length + 1) (old := c) (by omega)
      rw [hz2]; omega)
    obtain ⟨cap, hcp⟩ : ∃ cap, cap = grownCap (W.alloc (.cells #[.int .i64 x] 3)) (Q.length + 1) c 3 := ⟨_, rfl⟩
    have hge : Q.length + 1 ≤ cap := by rw [hcp]; exact grownCap_ge _ _ _ _
    have hle : cap ≤ maxLen := by rw [hcp]; exact grownCap_le_maxLen _ _ _ _ (by unfold maxLen; omega)
    rw [← hcp] at hr
    obtain ⟨arr, harr⟩ : ∃ arr, arr = (ints Q ++ [Value.int .i64 x]).toArray ++ Builtin.zeroCells (Value.int .i64 0).cells (cap - (Q.length + 1)) := ⟨_, rfl⟩
    rw [← harr] at hr
    have hsz : arr.size = cap := by rw [harr]; simp [Builtin.zeroCells, Value.cells, ints]; omega
    have o0 := World.ownsRow_lit (base := base) (e := 3) (size := 1) (W.alloc (.cells #[.int .i64 x] 3)).drew arr cap (Nat.le_trans hb (by simp)) hle (by rw [Nat.mul_one]; exact hsz)
    have hal : arr.toList.length = cap := by simpa using hsz
    refine ⟨_, _, hr, ⟨_, 0, cap, arr.toList, ?_, by rw [List.length_append]; exact hge, Or.inr (by rw [hal]; omega), by rw [hal]; exact o0, ?_⟩, hB0.drew.trans ((below_new _ _).mono (Nat.le_trans hb (by simp)))⟩
    · rw [List.length_append]; rfl
    · have := take_mid (ints Q) (Value.int .i64 x) (Builtin.zeroCells (Value.int .i64 0).cells (cap - (Q.length + 1))).toList
      rw [List.drop_zero, harr]
      simpa [ints] using this
end Go.Proofs.Ytdpjkblondoimab
namespace Go.Proofs.Ytdpjkblondoimab
open Go.RowKit

/-- The model's search: gf the halls come from, vq those that wait. -/
structure CM (w0 : World) (n gf base : Nat) (M Q : List Int) (vq : Value) (w : World) : Prop where
  own : w.ownsRow w0.heap.size 3 1 (.slice (some ⟨gf, 0, none⟩) n n) n (ints M)
  q : QQ w base vq Q
  lt : gf < base
  ble : base ≤ w.heap.size
  bel : Below w0.heap.size w0 w
  len : M.length = n
theorem CM.at {w0 w : World} {n gf base k : Nat} {M Q : List Int} {vq : Value} (h : CM w0 n gf base M Q vq w) (hk : k < n) : w.cell? ⟨gf, k, none⟩ = some (.int .i64 (M.getD k 0)) ∧ w.frozen? ⟨gf, k, none⟩ = false := by
  refine ⟨?_, h.own.frozenAt k⟩
  rw [h.own.cellAt k (by omega), ints_get _ k (by rw [h.len]; exact hk)]
theorem CM.below {w0 w w' : World} {n gf base : Nat} {M Q : List Int} {vq : Value} (h : CM w0 n gf base M Q vq w) (hb : Below w.heap.size w w') : CM w0 n gf base M Q vq w' :=
  ⟨own_below2 h.own hb, h.q.below hb, h.lt, Nat.le_trans h.ble hb.size, h.bel.trans (hb.mono h.bel.size), h.len⟩
theorem CM.store {w0 w : World} {n gf base k : Nat} {M Q : List Int} {vq : Value} {a : Int} (h : CM w0 n gf base M Q vq w) : CM w0 n gf base (M.set k a) Q vq (w.setCell ⟨gf, k, none⟩ (.int .i64 a)) := by
  obtain ⟨st1, st2⟩ := h.own.stored k (.int .i64 a)
  rw [ints_set] at st1
  have hlt := h.lt
  exact ⟨st1, h.q.keep fun g hg _ => Below.heap_setCell w ⟨gf, k, none⟩ _ g (by show g ≠ gf; omega), h.lt, by simpa using h.ble, h.bel.setCell (p := ⟨gf, k, none⟩) (h.own.lt gf rfl).1 _, by rw [List.length_set]; exact h.len⟩
theorem CM.push {w0 w : World} {n gf base : Nat} {M Q : List Int} {vq : Value} {x : Int} (h : CM w0 n gf base M Q vq w) (hq : Q.length ≤ 1000) (hlo : w0.heap.size ≤ base) :
    ∃ v' w', (∀ ty, (Builtin.append_ #[24, 24] ty #[vq, .slice (some ⟨w.heap.size, 0, none⟩) 1 1]).run Try.prog (w.alloc (.cells #[.int .i64 x] 3)) = .ok v' w') ∧ CM w0 n gf base M (Q ++ [x]) v' w' := by
  obtain ⟨v', w', h1, h2, h3⟩ := h.q.push (x := x) h.ble hq
  have hlt := h.lt
  exact ⟨v', w', h1, own_keep2 h.own fun b hv _ => by
    have : gf = b := by simpa [Value.ownBlock] using hv
    subst this
    exact h3.block gf hlt, h2, h.lt, Nat.le_trans h.ble h3.size, h.bel.trans (h3.mono hlo), h.len⟩
def isM2 (o : Option Value) : Bool := match o with
  | some (.int _ x) => x == -2
  | _ => false
def cntW (w : World) (gf : Nat) : Nat → Nat
  | 0 => 0
  | k + 1 => cntW w gf k + (if isM2 (w.cell? ⟨gf, k, none⟩) then 1 else 0)
theorem cnt_take {w : World} {gf n : Nat} {M : List Int} (hn : M.length = n) (h : ∀ k, k < n → w.cell? ⟨gf, k, none⟩ = some (.int .i64 (M.getD k 0))) : ∀ k, k ≤ n → cntW w gf k = (M.take k).count (-2)
  | 0, _ => by simp [cntW]
  | k + 1, hk => by
    rw [cntW, cnt_take hn h k (by omega), h k (by omega), List.take_succ_eq_append_getElem (by omega), List.count_append, List.count_singleton]
    simp only [isM2]
    rw [Pf.getD_lt _ _ (show k < M.length by omega)]
    rfl
def lenV (v : Value) : Nat := match v with
  | .slice _ l _ => l
  | _ => 0
def msq (n gf : Nat) (v : Value) (w : World) : Nat := cntW w gf n + lenV v
theorem CM.msq {w0 w : World} {n gf base : Nat} {M Q : List Int} {vq : Value} (h : CM w0 n gf base M Q vq w) : msq n gf vq w = Nt.open2 M Q := by
  obtain ⟨a, c, e⟩ := h.q.len
  unfold Proofs.Ytdpjkblondoimab.msq Nt.open2
  rw [e, cnt_take h.len (fun k hk => (h.at hk).1) n (Nat.le_refl _), List.take_of_length_le (by rw [h.len]; exact Nat.le_refl _)]
  rfl
theorem scan_mem2 {R : List (List Int)} {a : Int} {M Q : List Int} {n : Nat} (h : ∀ x ∈ Q, 0 ≤ x ∧ x < (n : Int)) : ∀ k, k ≤ n → ∀ x ∈ (Nt.scanTo R a M Q k).2, 0 ≤ x ∧ x < (n : Int)
  | 0, _ => h
  | k + 1, hk => by
    have ih := scan_mem2 (R := R) (a := a) (M := M) h k (by omega)
    rw [Nt.scanTo]
    split
    · intro x hx
      rcases List.mem_append.1 hx with hx | hx
      · exact ih x hx
      · simp at hx; omega
    · exact ih
/-- What holds where the line is looked at. -/
structure CMo (w0 : World) (R : List (List Int)) (n gf base f : Nat) (M Q : List Int) (vq : Value) (w : World) : Prop where
  cm : CM w0 n gf base M Q vq w
  bfs : Nt.bfs R n f M Q = Nt.come R n
  fuel : Nt.open2 M Q ≤ f
  few : Nt.open2 M Q ≤ n
  mem : ∀ x ∈ Q, 0 ≤ x ∧ x < (n : Int)
theorem fill_set {n k : Nat} {zs : List Int} (hz : zs.length = n) (hk : k < n) (h : zs.take k = List.replicate k (-2)) : (zs.set k (-2)).take (k + 1) = List.replicate (k + 1) (-2) := by
  rw [List.take_succ_eq_append_getElem (by simp; omega)]
  simp only [List.getElem_set_self, List.take_set_of_le (Nat.le_refl k)]
  rw [h, ← List.replicate_succ']
set_option maxRecDepth 100000 in
set_option maxHeartbeats 8000000 in
theorem slc_any {aw af : Option Addr} {n c d : Nat} {W F : List (List Int)} {w : World} (HN : Hid (W.length = n)) (HF : Hid (Nt.NF W F)) (HW : Hid (CRow w aw W)) (HA : Hid (CRow w af F)) :
    Calls Try.prog 34 #[.slice aw n c, .slice af n d] w fun e w' => ∃ g, e = .returned (.slice (some ⟨g, 0, none⟩) n n) ∧ w'.ownsRow w.heap.size 3 1 (.slice (some ⟨g, 0, none⟩) n n) n (ints (Nt.come (Nt.rooms W F) n)) ∧ Below w.heap.size w w' := by
  have h8 := Nt.rowsB_len (Nt.netB_rows HF.out.net)
  rw [HN.out] at h8
  obtain ⟨h2, h8⟩ := h8
  have hmk := makeI_run n (by omega)
  have HMO := hide (made_own w n (by omega))
  have HRA : Hid (∀ p k, p < n → k < n → Nt.at2 (Nt.rooms W F) p k = Nt.roomAt W F p k) := hide fun p k hp hk => Nt.rooms_at W F (by rw [HN.out]; exact hp) (by rw [HN.out]; exact hk)
  have n0 : (0 : Int) < (n : Int) := by omega
  go_enter Try.func34, Try.ntmps34
  go_wp2_with fail
  go_loopw [6, 15] (fun _ sk wr => ∃ (k : Nat) (zs : List Int), sk = .int .i64 k ∧ k ≤ n ∧ zs.length = n ∧ Hid (zs.take k = List.replicate k (-2)) ∧ Hid (wr.ownsRow w.heap.size 3 1 (.slice (some ⟨w.heap.size, 0, none⟩) n n) n (ints zs)) ∧ Hid (Below w.heap.size w wr)) (fun _ sk _ => n - (intOf sk).toNat)
  case atStart => exact ⟨0, List.replicate n 0, rfl, Nat.zero_le _, by simp, hide (by simp), HMO, hide (below_new _ _)⟩
  case round =>
    clear HMO hmk
    obtain ⟨k, zs, rfl, hk, hzl, HT, HO, HB⟩ := hrel
    by_cases hlt : k < n
    · have k0 : (0 : Int) ≤ (k : Int) := by omega
      have k1 : (k : Int) < (n : Int) := by omega
      have c0 : wr.cell? ⟨w.heap.size, k, none⟩ = some (.int .i64 (zs.getD k 0)) := by rw [HO.out.cellAt k (by omega), ints_get _ k (by omega)]
      have f0 := HO.out.frozenAt k
      have st1 := (HO.out.stored k (.int .i64 (-2))).1
      rw [ints_set] at st1
      have HO2 := hide st1
      have HT2 := hide (fill_set hzl hlt HT.out)
      have HB2 := hide (HB.out.setCell (p := ⟨w.heap.size, k, none⟩) (Nat.le_refl _) (.int .i64 (-2)))
      generalize zs.getD k 0 = z at c0
      clear st1 HO HB HT
      go_wp2_with fail
      go_roundw
      case rel => exact ⟨k + 1, _, by go_num, by omega, by simpa using hzl, HT2, HO2, HB2⟩
      case measure => simp only [intOf]; omega
    · have hke : k = n := by omega
      subst hke
      have hzs : zs = List.replicate k (-2) := by have := HT.out; rwa [List.take_of_length_le (by omega)] at this
      subst hzs
      obtain ⟨gf, hgf⟩ : ∃ gf, gf = w.heap.size := ⟨_, rfl⟩
      have HGF := hide hgf
      have c0 : wr.cell? ⟨gf, 0, none⟩ = some (.int .i64 (-2)) := by rw [hgf, HO.out.cellAt 0 (by omega), ints_get _ 0 (by omega)]; simp [show 0 < k by omega]
      have f0 : wr.frozen? ⟨gf, 0, none⟩ = false := by rw [hgf]; exact HO.out.frozenAt 0
      have st1 := (HO.out.stored 0 (.int .i64 (-1))).1
      rw [ints_set] at st1
      have hgl : gf < wr.heap.size := by rw [hgf]; exact (HO.out.lt _ rfl).2
      have HI : Hid (CMo w (Nt.rooms W F) k gf wr.heap.size k (Nt.start k) [0] (.slice (some ⟨wr.heap.size, 0, none⟩) 1 1) ((wr.setCell ⟨gf, 0, none⟩ (.int .i64 (-1))).alloc (.cells #[.int .i64 0] 3))) := hide (by
        have hs : (wr.setCell ⟨gf, 0, none⟩ (.int .i64 (-1))).heap.size = wr.heap.size := World.size_setCell _ _ _
        have hq := QQ.one (wr.setCell ⟨gf, 0, none⟩ (.int .i64 (-1))) 0
        rw [hs] at hq
        refine ⟨⟨?_, hq, hgl, by simp, ?_, Nt.start_len k⟩, rfl, by rw [Nt.start_open (by omega)]; exact Nat.le_refl _, by rw [Nt.start_open (by omega)]; exact Nat.le_refl _, fun x hx => by simp at hx; omega⟩
        · refine own_below2 ?_ (below_new _ _)
          rw [hgf]; exact st1
        · refine (HB.out.setCell (p := ⟨gf, 0, none⟩) (by rw [hgf]; exact Nat.le_refl _) _).trans ((below_new _ _).mono ?_)
          rw [hs]; exact HB.out.size)
      have HLO : Hid (w.heap.size ≤ wr.heap.size) := hide HB.out.size
      obtain ⟨base, hbase⟩ : ∃ base, base = wr.heap.size := ⟨_, rfl⟩
      rw [← hbase] at HI HLO
      rw [← hgf]
      have HBA := hide hbase
      have hsz : (wr.setCell ⟨gf, 0, none⟩ (.int .i64 (-1))).heap.size = base := by rw [hbase]; exact World.size_setCell _ _ _
      clear st1 HO HB HT hzl hgf hgl hbase
      go_wp2_with fail
      go_loopw [7, 8, 9] (fun s7 _ _ wr => ∃ (f : Nat) (M Q : List Int), Hid (CMo w (Nt.rooms W F) k gf base f M Q s7 wr)) (fun s7 _ _ wr => msq k gf s7 wr)
      case atStart => exact ⟨k, Nt.start k, [0], HI⟩
      case round =>
        clear HI c0 f0 hsz
        obtain ⟨f, M, Q, HC⟩ := hrel
        obtain ⟨aq, cq, eq⟩ := HC.out.cm.q.len
        subst eq
        have HMS := hide HC.out.cm.msq
        cases Q with
        | nil =>
          have HE : Hid (M = Nt.come (Nt.rooms W F) k) := hide (by have := HC.out.bfs; cases f <;> exact this)
          have HOE : Hid (wr.ownsRow w.heap.size 3 1 (.slice (some ⟨gf, 0, none⟩) k k) k (ints (Nt.come (Nt.rooms W F) k))) := hide (by rw [← HE.out]; exact HC.out.cm.own)
          have HBE := hide HC.out.cm.bel
          clear HC HE HMS
          go_wp2_with fail
          go_ret
          exact ⟨gf, rfl, HOE.out, HBE.out⟩
        | cons a Q =>
          obtain ⟨g, i, cc, e1, hcc, r1, hq1, hq2⟩ := HC.out.cm.q.head
          simp only [List.length_cons] at e1 ⊢
          cases e1
          have ha := HC.out.mem a List.mem_cons_self
          obtain ⟨p, rfl⟩ : ∃ p : Nat, a = (p : Int) := ⟨a.toNat, by omega⟩
          have hpk : p < k := by omega
          have HQ1 := hide hq1
          have HQ2 := hide hq2
          obtain ⟨L, hL⟩ : ∃ L, Q.length = L := ⟨_, rfl⟩
          have HL := hide hL
          have hms := HMS.out
          simp only [List.length_cons] at hms
          rw [hL] at hcc HQ1 HQ2 hms ⊢
          have hL0 : (0 : Int) < (L : Int) + 1 := by omega
          have hL1 : (1 : Int) ≤ (L : Int) + 1 := by omega
          have hL2 : (L : Int) + 1 ≤ (cq : Int) := by omega
          have HM : Hid (∀ x ∈ Q, 0 ≤ x ∧ x < (k : Int)) := hide fun x hx => HC.out.mem x (List.mem_cons_of_mem _ hx)
          have HOP : Hid (Nt.open2 M ((p : Int) :: Q) = Nt.open2 M Q + 1) := hide (by unfold Nt.open2; simp only [List.length_cons]; omega)
          have HFE := hide HC.out.few
          have HFU := hide HC.out.fuel
          have HBF := hide HC.out.bfs
          have HML := hide HC.out.cm.len
          have HCMQ : Hid (∀ v, QQ wr base v Q → CM w k gf base M Q v wr) := hide fun v hv => { HC.out.cm with q := hv }
          rw [HOP.out] at hms HFE HFU
          have HMS2 := hide hms
          clear hq1 hq2 hL HC ha hms HMS
          go_upto_region 11 with fail
          go_cut [7] from 25 to 59 (fun s7 wc => Hid (QQ wr base s7 Q) ∧ wc = wr)
          case first =>
            by_cases hc1 : cq = 1
            · subst hc1
              have hl0 : L = 0 := by omega
              subst hl0
              have H1 := hide (HQ1.out rfl)
              go_wp2_with fail
              go_meet
              case rel => exact ⟨H1, rfl⟩
            · have H1 := hide (HQ2.out hc1)
              go_wp2_with fail
              go_meet
              case rel => exact ⟨H1, rfl⟩
          case rest =>
            obtain ⟨HQ, rfl⟩ := hcut
            obtain ⟨a7, c7, e7⟩ := HQ.out.len
            subst e7
            have HCM := hide (HCMQ.out _ HQ.out)
            have p0 : (0 : Int) ≤ (p : Int) := by omega
            have p1 : (p : Int) < (k : Int) := by omega
            clear HQ HCMQ HQ1 HQ2 r1
            go_wp2_with fail
            go_loopw [7, 9, 35] (fun s7 _ sj wq => ∃ (j : Nat), sj = .int .i64 j ∧ j ≤ k ∧ Hid (CM w k gf base (Nt.scanTo (Nt.rooms W F) p M Q j).1 (Nt.scanTo (Nt.rooms W F) p M Q j).2 s7 wq)) (fun _ _ sj _ => k - (intOf sj).toNat)
            case atStart => exact ⟨0, rfl, Nat.zero_le _, HCM⟩
            case round =>
              clear HCM
              obtain ⟨j, rfl, hj, HCM⟩ := hrel
              obtain ⟨a8, c8, e8⟩ := HCM.out.q.len
              subst e8
              by_cases hjk : j < k
              · obtain ⟨c3, f3⟩ := HCM.out.at hjk
                have j0 : (0 : Int) ≤ (j : Int) := by omega
                have j1 : (j : Int) < (k : Int) := by omega
                have HST : Hid (Nt.scanTo (Nt.rooms W F) p M Q (j + 1) = if (Nt.scanTo (Nt.rooms W F) p M Q j).1.getD j 0 = -2 ∧ 0 < Nt.at2 (Nt.rooms W F) p j then ((Nt.scanTo (Nt.rooms W F) p M Q j).1.set j p, (Nt.scanTo (Nt.rooms W F) p M Q j).2 ++ [(j : Int)]) else Nt.scanTo (Nt.rooms W F) p M Q j) := hide rfl
                rw [HRA.out p j hpk hjk] at HST
                by_cases hy : (Nt.scanTo (Nt.rooms W F) p M Q j).1.getD j 0 = -2
                · have hq : (Nt.scanTo (Nt.rooms W F) p M Q j).2.length ≤ 1000 := by
                    have h1 := Nt.open_pos (M := (Nt.scanTo (Nt.rooms W F) p M Q j).1) (Q := (Nt.scanTo (Nt.rooms W F) p M Q j).2) (k := j) (by rw [HCM.out.len]; exact hjk) hy
                    have h2 := Nt.scan_open (R := Nt.rooms W F) (a := (p : Int)) (M := M) (Q := Q) (by omega) j (by rw [HML.out]; omega)
                    have h3 := HFE.out
                    omega
                  rw [hy] at c3
                  have HRM := hide (slm_any (c := c) (d := d) HN hpk hjk HF (hide (HW.out.below HCM.out.bel)) (hide (HA.out.below HCM.out.bel)))
                  generalize Nt.roomAt W F p j = x at *
                  by_cases hx : 0 < x
                  · have hx' : ¬ x ≤ 0 := by omega
                    have HS : Hid (Nt.scanTo (Nt.rooms W F) p M Q (j + 1) = ((Nt.scanTo (Nt.rooms W F) p M Q j).1.set j p, (Nt.scanTo (Nt.rooms W F) p M Q j).2 ++ [(j : Int)])) := hide (by rw [HST.out, if_pos ⟨hy, hx⟩])
                    clear hy HST
                    go_wp2_with fail
                    refine HRM.out.mono ?_
                    rintro e w6 ⟨rfl, hb6⟩
                    have HC6 := hide (HCM.out.below hb6)
                    obtain ⟨d3, g3⟩ := HC6.out.at hjk
                    have hcs := HC6.out.store (k := j) (a := (p : Int))
                    obtain ⟨v7, w7, p7, hc7⟩ := hcs.push (x := (j : Int)) hq HLO.out
                    rw [World.size_setCell] at p7
                    have HC7 : Hid (CM w k gf base (Nt.scanTo (Nt.rooms W F) p M Q (j + 1)).1 (Nt.scanTo (Nt.rooms W F) p M Q (j + 1)).2 v7 w7) := hide (by rw [HS.out]; exact hc7)
                    generalize (Nt.scanTo (Nt.rooms W F) p M Q j).1.getD j 0 = zz at d3
                    clear hb6 hcs hc7 HCM HC6 HRM c3 f3 HS
                    go_wp2_with (first | (at_builtin; refine Lib.wpList_append_run _ rfl _ _ 24 24 rfl _ _ rfl rfl _ _ (p7 _) ?_))
                    go_roundw
                    case rel => exact ⟨j + 1, by go_num, by omega, HC7⟩
                    case measure => simp only [intOf]; omega
                  · have hx' : x ≤ 0 := by omega
                    have HS : Hid (Nt.scanTo (Nt.rooms W F) p M Q (j + 1) = Nt.scanTo (Nt.rooms W F) p M Q j) := hide (by rw [HST.out, if_neg (fun h => hx h.2)])
                    clear hy HST
                    go_wp2_with fail
                    refine HRM.out.mono ?_
                    rintro e w6 ⟨rfl, hb6⟩
                    have HC6 : Hid (CM w k gf base (Nt.scanTo (Nt.rooms W F) p M Q (j + 1)).1 (Nt.scanTo (Nt.rooms W F) p M Q (j + 1)).2 (.slice a8 (Nt.scanTo (Nt.rooms W F) p M Q j).2.length c8) w6) := hide (by rw [HS.out]; exact HCM.out.below hb6)
                    clear hb6 HCM HRM c3 f3 HS
                    go_wp2_with fail
                    go_roundw
                    case rel => exact ⟨j + 1, by go_num, by omega, HC6⟩
                    case measure => simp only [intOf]; omega
                · have HS : Hid (Nt.scanTo (Nt.rooms W F) p M Q (j + 1) = Nt.scanTo (Nt.rooms W F) p M Q j) := hide (by rw [HST.out, if_neg (fun h => hy h.1)])
                  have hb1 : ((Nt.scanTo (Nt.rooms W F) p M Q j).1.getD j 0 == (-2 : Int)) = false := by rw [beq_eq_false_iff_ne]; exact hy
                  have HC6 : Hid (CM w k gf base (Nt.scanTo (Nt.rooms W F) p M Q (j + 1)).1 (Nt.scanTo (Nt.rooms W F) p M Q (j + 1)).2 (.slice a8 (Nt.scanTo (Nt.rooms W F) p M Q j).2.length c8) wr) := hide (by rw [HS.out]; exact HCM.out)
                  generalize (Nt.scanTo (Nt.rooms W F) p M Q j).1.getD j 0 = z at *
                  clear HST HCM hy HS
                  go_wp2_with fail
                  go_roundw
                  case rel => exact ⟨j + 1, by go_num, by omega, HC6⟩
                  case measure => simp only [intOf]; omega
              · have hje : j = k := by omega
                subst hje
                have hop := Nt.scan_open (R := Nt.rooms W F) (a := (p : Int)) (M := M) (Q := Q) (by omega) j (by rw [HML.out]; exact Nat.le_refl _)
                have hmq := HCM.out.msq
                have HCO : Hid (∃ f, CMo w (Nt.rooms W F) j gf base f (Nt.scanTo (Nt.rooms W F) p M Q j).1 (Nt.scanTo (Nt.rooms W F) p M Q j).2 (.slice a8 (Nt.scanTo (Nt.rooms W F) p M Q j).2.length c8) wr) := hide (by
                  have hfu := HFU.out
                  have hfe := HFE.out
                  obtain ⟨f, rfl⟩ : ∃ g, f = g + 1 := ⟨f - 1, by omega⟩
                  refine ⟨f, HCM.out, ?_, by omega, by omega, scan_mem2 HM.out j (Nat.le_refl _)⟩
                  have := HBF.out
                  rw [Nt.bfs] at this
                  exact this)
                have HMQ : Hid (msq j gf (.slice a8 (Nt.scanTo (Nt.rooms W F) p M Q j).2.length c8) wr < Nt.open2 M Q + 1) := hide (by rw [hmq, hop]; omega)
                clear hop hmq HCM
                go_wp2_with fail
                go_roundw
                case rel =>
                  obtain ⟨f, hco⟩ := HCO.out
                  exact ⟨f, _, _, hide hco⟩
                case measure => rw [HMS2.out]; exact HMQ.out
end Go.Proofs.Ytdpjkblondoimab
namespace Go.Proofs.Ytdpjkblondoimab
open Go.RowKit

/-- Nothing has turned but the blocks x and y; new blocks may be there. -/
structure Off2 (w w' : World) (x y : Nat) : Prop where
  os : w'.os = w.os
  tape : w'.tape = w.tape
  output : w'.output = w.output
  size : w.heap.size ≤ w'.heap.size
  block : ∀ b, b < w.heap.size → b ≠ x → b ≠ y → w'.heap[b]? = w.heap[b]?
theorem Off2.below {w w' : World} {x y k : Nat} (h : Off2 w w' x y) (hx : k ≤ x) (hy : k ≤ y) (hk : k ≤ w.heap.size) : Below k w w' :=
  ⟨h.os, h.tape, h.output, h.size, fun b hb => h.block b (by omega) (by omega) (by omega)⟩
theorem own_near {w : World} {base n g cap : Nat} {xs : List Value} (h : w.ownsRow base 3 1 (.slice (some ⟨g, 0, none⟩) n cap) n xs) : g < w.heap.size := by
  rcases h.2 with ⟨h0, _⟩ | ⟨g', cap', cur, hv, h2, h3, _⟩
  · cases h0
  · cases hv; exact (Array.getElem?_eq_some_iff.1 h3).1

end Go.Proofs.Ytdpjkblondoimab
namespace Go.Proofs.Ytdpjkblondoimab
open Go.RowKit

/-- The list that a value owns holds k, k + 1, .. -/
def HeldV (w : World) (v : Value) (n : Nat) (k : Int) : Prop :=
  (v = .slice none 0 0 ∧ n = 0) ∨ ∃ g cap, v = .slice (some ⟨g, 0, none⟩) n cap ∧ g < w.heap.size ∧ ∀ j : Nat, j < n → w.cell? ⟨g, j, none⟩ = some (.int .i64 (k + j))
theorem HeldV.keep {w w' : World} {v : Value} {n : Nat} {k : Int} (h : HeldV w v n k) (hs : w.heap.size ≤ w'.heap.size) (hb : ∀ g, v.ownBlock = some g → w'.heap[g]? = w.heap[g]?) : HeldV w' v n k := by
  rcases h with h | ⟨g, cap, rfl, hl, hc⟩
  · exact Or.inl h
  · exact Or.inr ⟨g, cap, rfl, Nat.lt_of_lt_of_le hl hs, fun j hj => (World.cell?_of_block (w := w) (a := ⟨g, j, none⟩) (hb g rfl)).trans (hc j hj)⟩
theorem HeldV.below {w w' : World} {v : Value} {n : Nat} {k : Int} (h : HeldV w v n k) (hb : Below w.heap.size w w') : HeldV w' v n k := by
  rcases h with h | ⟨g, cap, rfl, hl, hc⟩
  · exact Or.inl h
  · exact Or.inr ⟨g, cap, rfl, Nat.lt_of_lt_of_le hl hb.size, fun j hj => (hb.cell (p := ⟨g, j, none⟩) hl).trans (hc j hj)⟩
theorem own_keep {w w' : World} {base n : Nat} {v : Value} {xs : List Value} (h : w.ownsRow base 3 1 v n xs) (hb : ∀ g, v.ownBlock = some g → g < w.heap.size → w'.heap[g]? = w.heap[g]?) : w'.ownsRow base 3 1 v n xs := by
  rcases h with ⟨h0, h | ⟨g', cap, cur, rfl, h2, h3, h4⟩⟩
  · exact ⟨h0, Or.inl h⟩
  · exact ⟨h0, Or.inr ⟨g', cap, cur, rfl, h2, (hb g' rfl (Array.getElem?_eq_some_iff.1 h3).1).trans h3, h4⟩⟩
theorem own_below {w w' : World} {base n : Nat} {v : Value} {xs : List Value} (h : w.ownsRow base 3 1 v n xs) (hb : Below w.heap.size w w') : w'.ownsRow base 3 1 v n xs := own_keep h fun _ _ hl => hb.block _ hl
theorem own_row {w : World} {base n : Nat} {v : Value} {xs : List Int} (hx : xs.length = n) (h : w.ownsRow base 3 1 v n (ints xs)) : ∃ a cap, v = .slice a n cap ∧ ARow w a xs := by
  rcases h.2 with ⟨rfl, hn⟩ | ⟨g, cap, cur, rfl, _⟩
  · subst hn; exact ⟨none, 0, rfl, Or.inl (List.length_eq_zero_iff.1 hx)⟩
  · exact ⟨_, _, rfl, arow_owns hx.symm h⟩
theorem grown_under {w w' : World} {base n k : Nat} {v : Value} {xs : List Value} (hg : w.grownBy w' v.ownBlock) (h : w.ownsRow base 3 1 v n xs) (hk : k ≤ base) (hs : k ≤ w.heap.size) : Below k w w' :=
  ⟨hg.os, hg.tape, hg.output, hg.size, fun b hb => hg.block b (by omega) (fun he => by have := h.lt b he.symm; omega)⟩

theorem eqV_any {v v' : Value} {base base' n : Nat} {xs : List Int} {w : World} (hx : xs.length = n) (hn : n ≤ 1048576) (h1 : w.ownsRow base 3 1 v n (ints xs)) (h2 : w.ownsRow base' 3 1 v' n (ints xs)) :
    Calls Try.prog 9 #[v, v'] w fun e w' => e = .returned (.bool true) ∧ Below w.heap.size w w' := by
  obtain ⟨a, c, rfl, r1⟩ := own_row hx h1
  obtain ⟨a', c', rfl, r2⟩ := own_row hx h2
  exact eqI_b hx hn r1 r2
theorem markV_any {v : Value} {base n : Nat} {xs : List Int} {k : Int} {w : World} (hx : xs.length = n) (hn : n ≤ 1048576) (k0 : 0 ≤ k) (k1 : k ≤ 1000000000) (h : w.ownsRow base 3 1 v n (ints xs)) :
    Calls Try.prog 12 #[v, .int .i64 k] w fun e w' => e = .returned (.int .i64 (k + n)) ∧ HeldV w' v n k ∧ w.grownBy w' v.ownBlock := by
  have h' := h
  rcases h.2 with ⟨rfl, h0⟩ | ⟨g, cap, cur, rfl, h1, h2, _⟩
  · subst h0
    refine (mark_zero _ _ _ _).mono ?_
    rintro e w' ⟨rfl, rfl⟩
    exact ⟨by simp, Or.inl ⟨rfl, rfl⟩, World.grownBy.refl _ _⟩
  · refine (mark_any g n cap base xs k w hx (by omega) k0 (by omega) h').mono ?_
    rintro e w' ⟨rfl, ⟨ys, hy, hys, own⟩, hg⟩
    refine ⟨rfl, Or.inr ⟨g, cap, rfl, own_near own, fun j hj => ?_⟩, hg⟩
    rw [own.cellAt j (by omega), ints_get ys j (by omega), hys j hj]
theorem heldV_any {v : Value} {n : Nat} {k : Int} {w : World} (hn : n ≤ 1048576) (k0 : 0 ≤ k) (k1 : k ≤ 1000000000) (h : HeldV w v n k) :
    Calls Try.prog 13 #[v, .int .i64 k] w fun e w' => e = .returned (.int .i64 (k + n)) ∧ w' = w := by
  rcases h with ⟨rfl, rfl⟩ | ⟨g, cap, rfl, _, hc⟩
  · refine (held_zero _ _ _ _).mono ?_
    rintro e w' ⟨rfl, rfl⟩
    exact ⟨by simp, rfl⟩
  · exact held_any g n cap k w (by omega) k0 (by omega) hc
end Go.Proofs.Ytdpjkblondoimab
namespace Go.Proofs.Ytdpjkblondoimab
open Go.RowKit

/-- One number ahead of a list. -/
theorem ahead {W : World} {base m : Nat} {v : Value} {out : List Int} {x : Int} (own : W.ownsRow base 3 1 v m (ints out)) (hm : out.length = m) (h9 : m ≤ 1000) (hb : base ≤ W.heap.size) :
    ∃ v' w', (∀ ty, (Builtin.append_ #[24, 24] ty #[.slice (some ⟨W.heap.size, 0, none⟩) 1 1, v]).run Try.prog (W.alloc (.cells #[.int .i64 x] 3)) = .ok v' w') ∧ w'.ownsRow base 3 1 v' (m + 1) (ints (x :: out)) ∧ Below base W w' := by
  obtain ⟨i0, hi, hz0, hz1, hz2⟩ := infoI
  obtain ⟨a, c, rfl, ra⟩ := own_row hm own
  have o1 := World.ownsRow_lit (base := base) (e := 3) (size := 1) W #[.int .i64 x] 1 hb (by unfold maxLen; omega) rfl
  obtain ⟨v', w', h1, h2, h3⟩ := run_append_v (P := Try.prog) (W.alloc (.cells #[.int .i64 x] 3)) base 24 0 3 i0 _ 8 Try.underlying24 hi hz0 hz1 hz2 rfl _ 1 _ o1 a m c (ints out) (by rw [ints_len, hm]) (ra.below (below_new _ _)).vrow (c_ints out) (by unfold maxLen; omega) (by omega) (Nat.le_trans hb (by simp))
  refine ⟨v', w', fun _ => h1, ?_, ((below_new W _).mono hb).trans (grown_under' h3 o1 (Nat.le_refl _) (Nat.le_trans hb (by simp)))⟩
  rw [Nat.add_comm m 1]
  exact h2
/-- Where the way back stands. -/
def Wm (R : List (List Int)) (n : Nat) (M H out : List Int) (s6 : Value) : Prop :=
  (∃ (p j f : Nat), s6 = .int .i64 (p : Int) ∧ p < n ∧ H.getD j 0 = (p : Int) ∧ Wb R n M H j f out) ∨ (s6 = .int .i64 (-1) ∧ out = Nt.wayM M n ∧ out.length ≤ n)
theorem Wm.step {R : List (List Int)} {n : Nat} {M H out : List Int} {p j f : Nat} (hp : H.getD j 0 = (p : Int)) (h : Wb R n M H j f out) : ∃ x : Int, M.getD p 0 = x ∧ Wm R n M H ((p : Int) :: out) (.int .i64 x) := by
  by_cases h0 : j = 0
  · subst h0
    obtain ⟨z1, z2⟩ := h.zero
    have : p = 0 := by rw [z1] at hp; omega
    subst this
    refine ⟨-1, h.bi.m0, Or.inr ⟨rfl, z2.symm, ?_⟩⟩
    have := h.len
    simp only [List.length_cons]; omega
  · obtain ⟨p', q, l, g, e1, _, _, e2, e3, e4, e5⟩ := h.step h0
    have : p' = p := by rw [e1] at hp; omega
    subst this
    exact ⟨(q : Int), e2, Or.inl ⟨q, l, g, rfl, e3, e4, e5⟩⟩
set_option maxRecDepth 100000 in
set_option maxHeartbeats 4000000 in
theorem slw_any {aw af : Option Addr} {n c d : Nat} {W F : List (List Int)} {w : World} (HN : Hid (W.length = n)) (HF : Hid (Nt.NF W F)) (HW : Hid (CRow w aw W)) (HA : Hid (CRow w af F)) :
    Calls Try.prog 21 #[.slice aw n c, .slice af n d] w fun e w' => ∃ v, e = .returned v ∧ w'.ownsRow w.heap.size 3 1 v (Nt.wayOf W F).length (ints (Nt.wayOf W F)) ∧ Below w.heap.size w w' := by
  have h8 := Nt.rowsB_len (Nt.netB_rows HF.out.net)
  rw [HN.out] at h8
  obtain ⟨h2, h8⟩ := h8
  have k0 : (0 : Int) ≤ (n : Int) - 1 := by omega
  have k1 : (n : Int) - 1 < (n : Int) := by omega
  have kt : ((n : Int) - 1).toNat = n - 1 := by omega
  have hWY : Nt.wayOf W F = Nt.wayM (Nt.come (Nt.rooms W F) n) n := by rw [Nt.wayOf, HN.out]
  rw [hWY]
  have HCL : Hid ((Nt.come (Nt.rooms W F) n).length = n) := hide (by obtain ⟨H, hb⟩ := Nt.come_inv (Nt.rooms W F) (n := n) (by omega); exact hb.len)
  have HST := hide (Wb.start (R := Nt.rooms W F) (n := n) h2)
  obtain ⟨M, hM⟩ : ∃ M, M = Nt.come (Nt.rooms W F) n := ⟨_, rfl⟩
  have HM := hide hM
  rw [← hM] at HCL HST ⊢
  clear hM hWY
  go_enter Try.func21, Try.ntmps21
  go_wp2_with fail
  refine (slc_any HN HF HW HA).mono ?_
  rintro e w1 ⟨g, rfl, own, hb⟩
  rw [← HM.out] at own
  have HAT : Hid (∀ (V : World) (i : Nat), Below w1.heap.size w1 V → i < n → V.cell? ⟨g, i, none⟩ = some (.int .i64 (M.getD i 0))) := hide fun V i hV hi => by
    rw [(own_below2 own hV).cellAt i (by omega), ints_get _ i (by rw [HCL.out]; exact hi)]
  have HBE := hide hb
  have c0 := HAT.out w1 (n - 1) (Below.refl _ _) (by omega)
  have c0' := c0
  rw [← kt] at c0'
  clear own hb
  by_cases hno : M.getD (n - 1) 0 = -2
  · rw [hno] at c0
    rw [kt, hno] at c0'
    have c1 := c0
    rw [← kt] at c1
    have HE : Hid (w1.ownsRow w.heap.size 3 1 (.slice none 0 0) (Nt.wayM M n).length (ints (Nt.wayM M n))) := hide (by rw [Nt.way_no hno]; exact World.ownsRow_nil _ _ _ _)
    clear c0'
    go_wp2_with fail
    go_ret
    exact ⟨_, rfl, HE.out, HBE.out⟩
  · obtain ⟨HH, j0, hwb, ej⟩ := HST.out hno
    have HWM : Hid (Wm (Nt.rooms W F) n M HH [] (.int .i64 ((n : Int) - 1))) := hide (Or.inl ⟨n - 1, j0, n + 1, by rw [show ((n - 1 : Nat) : Int) = (n : Int) - 1 by omega], by omega, by rw [ej]; omega, hwb⟩)
    have hne : (M.getD (n - 1) 0 == (-2 : Int)) = false := by rw [beq_eq_false_iff_ne]; exact hno
    rw [kt] at c0'
    generalize M.getD (n - 1) 0 = z at c0 hne
    have c1 := c0
    rw [← kt] at c1
    clear hwb ej hno c0'
    go_wp2_with fail
    go_loopw [6, 7] (fun s6 s7 wr => ∃ (out : List Int), Hid (Wm (Nt.rooms W F) n M HH out s6) ∧ Hid (wr.ownsRow w1.heap.size 3 1 s7 out.length (ints out)) ∧ Hid (Below w1.heap.size w1 wr)) (fun _ s7 _ => lenL n s7)
    case atStart => exact ⟨[], HWM, hide (World.ownsRow_nil _ _ _ _), hide (Below.refl _ _)⟩
    case round =>
      clear HWM c0 c1 hne
      obtain ⟨out, HWM, HO, HB⟩ := hrel
      obtain ⟨a7, c7, e7⟩ := own_form2 HO.out
      subst e7
      rcases HWM.out with ⟨p, j, f, rfl, hpn, hp, hwb⟩ | ⟨rfl, hout, hlen⟩
      · have hl := hwb.len
        obtain ⟨x, hx, hwm⟩ := Wm.step hp hwb
        obtain ⟨m, hm⟩ : ∃ m, out.length = m := ⟨_, rfl⟩
        rw [hm] at hl
        rw [hm] at HO ⊢
        obtain ⟨v6, w6, p6, o6, b6⟩ := ahead (x := (p : Int)) HO.out hm (by omega) HB.out.size
        have HB6 := hide (HB.out.trans b6)
        have d0 := HAT.out w6 p HB6.out hpn
        rw [hx] at d0
        have HO6 : Hid (w6.ownsRow w1.heap.size 3 1 v6 ((p : Int) :: out).length (ints ((p : Int) :: out))) := hide (by rw [List.length_cons, hm]; exact o6)
        obtain ⟨a6, c6, e6⟩ := own_form2 o6
        have HWM2 := hide hwm
        have p0 : (0 : Int) ≤ (p : Int) := by omega
        have p1 : (p : Int) < (n : Int) := by omega
        have pn : ¬ (p : Int) < 0 := by omega
        subst e6
        have HMM := hide hm
        clear o6 b6 HO HB hwm hwb hx HWM hm
        go_wp2_with (first | (at_builtin; refine Lib.wpList_append_run _ rfl _ _ 24 24 rfl _ _ rfl rfl _ _ (p6 _) ?_))
        go_roundw
        case rel => exact ⟨(p : Int) :: out, HWM2, HO6, HB6⟩
        case measure => simp only [lenL]; omega
      · have HE : Hid (wr.ownsRow w.heap.size 3 1 (.slice a7 out.length c7) (Nt.wayM M n).length (ints (Nt.wayM M n))) := hide (by rw [← hout]; exact own_low2 HO.out HBE.out.size)
        have HBX := hide (HBE.out.trans (HB.out.mono HBE.out.size))
        generalize out.length = L at *
        clear hout HO HB HWM
        go_wp2_with fail
        go_ret
        exact ⟨_, rfl, HE.out, HBX.out⟩
end Go.Proofs.Ytdpjkblondoimab
namespace Go.Proofs.Ytdpjkblondoimab
namespace Nt
def nwL (W F : List (List Int)) : List Int := if nfB W F then wayOf W F else []
def nwB (W F : List (List Int)) : Bool := decide (0 < (nwL W F).length)
end Nt
open Go.RowKit
theorem nil_len {l : List Int} (h : l = []) : l.length = 0 := by rw [h]; rfl
set_option maxHeartbeats 2000000 in
theorem nw_w {aw af : Option Addr} {n m c d : Nat} {W F : List (List Int)} {w : World} (HN : Hid (W.length = n)) (HM : Hid (F.length = m)) (HW : Hid (CRow w aw W)) (HA : Hid (CRow w af F)) :
    Calls Try.prog 8 #[.slice aw n c, .slice af m d] w fun e w' => ∃ v, e = .returned (.tuple #[v, .bool (Nt.nwB W F), .bool (Nt.nfB W F)]) ∧ w'.ownsRow w.heap.size 3 1 v (Nt.nwL W F).length (ints (Nt.nwL W F)) ∧ Below w.heap.size w w' := by
  have HI := hide (isf_w (c := c) (d := d) HN HM HW HA)
  cases hf : Nt.nfB W F
  · have e1 : Nt.nwL W F = [] := by simp [Nt.nwL, hf]
    have e2 : Nt.nwB W F = false := by simp [Nt.nwB, e1]
    rw [e1, e2]
    rw [hf] at HI
    generalize Nt.askB W F = G at *
    clear hf e1 e2
    go_enter Try.func8, Try.ntmps8
    go_wp2_with fail
    refine HI.out.mono ?_
    rintro e w1 ⟨rfl, hw1⟩
    obtain rfl : w = w1 := hw1.symm
    go_wp2_with fail
    go_ret3
    exact ⟨_, rfl, World.ownsRow_nil _ _ _ _, Below.refl _ _⟩
  · have HNF := hide (Nt.nfB_iff.1 hf)
    have ha : Nt.askB W F = true := by
      have := Nt.nf_eq W F
      rw [hf] at this
      cases h : Nt.askB W F
      · rw [h] at this; simp at this
      · rfl
    rw [hf, ha] at HI
    have h8 := Nt.rowsB_len (Nt.netB_rows HNF.out.net)
    rw [HN.out] at h8
    obtain ⟨h2, h8⟩ := h8
    have hmn : m = n := by have := HNF.out.len; rw [HM.out, HN.out] at this; exact this
    subst hmn
    have e1 : Nt.nwL W F = Nt.wayOf W F := by simp [Nt.nwL, hf]
    have e2 : Nt.nwB W F = decide (0 < (Nt.wayOf W F).length) := by rw [Nt.nwB, e1]
    rw [e1, e2]
    have HRL : Hid ((Nt.rooms W F).length = m) := hide ((Nt.rooms_len W F).trans HN.out)
    have HRR : Hid (∀ i, i < m → ((Nt.rooms W F).getD i []).length = m) := hide fun i hi => by rw [Nt.rooms_row W F (by rw [HN.out]; exact hi), Nt.roomR_len, HN.out]
    have HWY : Hid (Nt.wayM (Nt.come (Nt.rooms W F) m) m = Nt.wayOf W F) := hide (by rw [Nt.wayOf, HN.out])
    clear hf ha e1 e2
    by_cases hnil : Nt.wayOf W F = []
    · have hd : decide (0 < (Nt.wayOf W F).length) = false := by rw [hnil]; rfl
      rw [hd]
      have HNI := hide hnil
      clear hd hnil
      go_enter Try.func8, Try.ntmps8
      go_wp2_with fail
      refine HI.out.mono ?_
      rintro e w1 ⟨rfl, hw1⟩
      obtain rfl : w = w1 := hw1.symm
      go_wp2_with fail
      refine (ro13_any HN HNF HW HA).mono ?_
      rintro e w2 ⟨v2, us2, rfl, L2, hb2⟩
      obtain ⟨a2, c2, rfl⟩ := L2.form
      have HR2 : Hid (CRow w2 a2 (Nt.rooms W F)) := hide L2.crow
      rw [HRL.out]
      have HB2 := hide hb2
      clear L2 hb2
      go_wp2_with fail
      refine (wt_any HRL h2 h8 HRR HR2).mono ?_
      rintro e w3 ⟨v3, rfl, own3, hb3⟩
      rw [HWY.out] at own3
      have HO3 := hide (own_low2 own3 HB2.out.size)
      have HB3 := hide (HB2.out.trans (hb3.mono HB2.out.size))
      obtain ⟨a3, c3, rfl⟩ := own_form2 own3
      rw [nil_len HNI.out]
      have HO4 : Hid (w3.ownsRow w.heap.size 3 1 (.slice a3 0 c3) (Nt.wayOf W F).length (ints (Nt.wayOf W F))) := hide (by have := HO3.out; rw [nil_len HNI.out] at this; rw [nil_len HNI.out]; exact this)
      clear own3 hb3 HR2 HB2 HO3
      go_wp2_with fail
      go_ret3
      exact ⟨_, rfl, HO4.out, HB3.out⟩
    · have hpos : 0 < (Nt.wayOf W F).length := List.length_pos_iff.2 hnil
      have hd : decide (0 < (Nt.wayOf W F).length) = true := decide_eq_true hpos
      rw [hd]
      obtain ⟨L, hL⟩ : ∃ L, (Nt.wayOf W F).length = L := ⟨_, rfl⟩
      rw [hL] at hpos ⊢
      have HL := hide hL
      have hL0 : (0 : Int) < (L : Int) := by omega
      clear hd hnil hL
      go_enter Try.func8, Try.ntmps8
      go_wp2_with fail
      refine HI.out.mono ?_
      rintro e w1 ⟨rfl, hw1⟩
      obtain rfl : w = w1 := hw1.symm
      go_wp2_with fail
      refine (ro13_any HN HNF HW HA).mono ?_
      rintro e w2 ⟨v2, us2, rfl, L2, hb2⟩
      obtain ⟨a2, c2, rfl⟩ := L2.form
      have HR2 : Hid (CRow w2 a2 (Nt.rooms W F)) := hide L2.crow
      rw [HRL.out]
      have HB2 := hide hb2
      clear L2 hb2
      go_wp2_with fail
      refine (wt_any HRL h2 h8 HRR HR2).mono ?_
      rintro e w3 ⟨v3, rfl, own3, hb3⟩
      rw [HWY.out, HL.out] at own3
      have HO3 := hide (own_low2 own3 HB2.out.size)
      have HB3 := hide (HB2.out.trans (hb3.mono HB2.out.size))
      obtain ⟨a3, c3, rfl⟩ := own_form2 own3
      clear own3 hb3 HR2 HB2
      go_wp2_with fail
      go_ret3
      exact ⟨_, rfl, HO3.out, HB3.out⟩
set_option maxHeartbeats 2000000 in
theorem snw_w {aw af : Option Addr} {n m c d : Nat} {W F : List (List Int)} {w : World} (HN : Hid (W.length = n)) (hn : n ≤ 1048576) (HM : Hid (F.length = m)) (hm : m ≤ 1048576) (HW : Hid (CRow w aw W)) (HA : Hid (CRow w af F)) :
    Calls Try.prog 6 #[.slice aw n c, .slice af m d] w fun e w' => ∃ v, e = .returned (.tuple #[v, .bool (Nt.nwB W F), .bool (Nt.nfB W F)]) ∧ w'.ownsRow w.heap.size 3 1 v (Nt.nwL W F).length (ints (Nt.nwL W F)) ∧ Below w.heap.size w w' := by
  cases hg : Nt.netB W
  · have HG := hide hg
    have hf : Nt.nfB W F = false := by simp [Nt.nfB, hg]
    have e1 : Nt.nwL W F = [] := by simp [Nt.nwL, hf]
    have e2 : Nt.nwB W F = false := by simp [Nt.nwB, e1]
    rw [e1, e2, hf]
    clear hf e1 e2 hg
    go_enter Try.func6, Try.ntmps6
    go_wp2_with fail
    refine (sgn_eq HN hn HW HG).mono ?_
    rintro e w1 ⟨rfl, hw1⟩
    obtain rfl : w = w1 := hw1.symm
    go_wp2_with fail
    go_ret3
    exact ⟨_, rfl, World.ownsRow_nil _ _ _ _, Below.refl _ _⟩
  · have HG := hide hg
    have HSL := hide (slf_w (c := c) (d := d) HN HM hm (hide (Nt.netB_rows hg)) HW HA)
    rw [← Nt.flow_eq hg] at HSL
    cases hf : Nt.nfB W F
    · have e1 : Nt.nwL W F = [] := by simp [Nt.nwL, hf]
      have e2 : Nt.nwB W F = false := by simp [Nt.nwB, e1]
      rw [e1, e2]
      rw [hf] at HSL
      clear hf e1 e2 hg
      go_enter Try.func6, Try.ntmps6
      go_wp2_with fail
      refine (sgn_eq HN hn HW HG).mono ?_
      rintro e w1 ⟨rfl, hw1⟩
      obtain rfl : w = w1 := hw1.symm
      go_wp2_with fail
      refine HSL.out.mono ?_
      rintro e w2 ⟨rfl, hb2⟩
      go_wp2_with fail
      go_ret3
      exact ⟨_, rfl, World.ownsRow_nil _ _ _ _, hb2⟩
    · have HNF := hide (Nt.nfB_iff.1 hf)
      rw [hf] at HSL
      have hmn : m = n := by have := HNF.out.len; rw [HM.out, HN.out] at this; exact this
      subst hmn
      have e1 : Nt.nwL W F = Nt.wayOf W F := by simp [Nt.nwL, hf]
      have e2 : Nt.nwB W F = decide (0 < (Nt.wayOf W F).length) := by rw [Nt.nwB, e1]
      rw [e1, e2]
      clear hf e1 e2 hg
      by_cases hnil : Nt.wayOf W F = []
      · have hd : decide (0 < (Nt.wayOf W F).length) = false := by rw [hnil]; rfl
        rw [hd]
        have HNI := hide hnil
        clear hd hnil
        go_enter Try.func6, Try.ntmps6
        go_wp2_with fail
        refine (sgn_eq HN hn HW HG).mono ?_
        rintro e w1 ⟨rfl, hw1⟩
        obtain rfl : w = w1 := hw1.symm
        go_wp2_with fail
        refine HSL.out.mono ?_
        rintro e w2 ⟨rfl, hb2⟩
        have HB2 := hide hb2
        clear hb2
        go_wp2_with fail
        refine (slw_any HN HNF (hide (HW.out.below HB2.out)) (hide (HA.out.below HB2.out))).mono ?_
        rintro e w3 ⟨v3, rfl, own3, hb3⟩
        have HO3 := hide (own_low2 own3 HB2.out.size)
        have HB3 := hide (HB2.out.trans (hb3.mono HB2.out.size))
        obtain ⟨a3, c3, rfl⟩ := own_form2 own3
        rw [nil_len HNI.out]
        have HO4 : Hid (w3.ownsRow w.heap.size 3 1 (.slice a3 0 c3) (Nt.wayOf W F).length (ints (Nt.wayOf W F))) := hide (by have := HO3.out; rw [nil_len HNI.out] at this; rw [nil_len HNI.out]; exact this)
        clear own3 hb3 HB2 HO3
        go_wp2_with fail
        go_ret3
        exact ⟨_, rfl, HO4.out, HB3.out⟩
      · have hpos : 0 < (Nt.wayOf W F).length := List.length_pos_iff.2 hnil
        have hd : decide (0 < (Nt.wayOf W F).length) = true := decide_eq_true hpos
        rw [hd]
        obtain ⟨L, hL⟩ : ∃ L, (Nt.wayOf W F).length = L := ⟨_, rfl⟩
        rw [hL] at hpos ⊢
        have HL := hide hL
        have hL0 : (0 : Int) < (L : Int) := by omega
        clear hd hnil hL
        go_enter Try.func6, Try.ntmps6
        go_wp2_with fail
        refine (sgn_eq HN hn HW HG).mono ?_
        rintro e w1 ⟨rfl, hw1⟩
        obtain rfl : w = w1 := hw1.symm
        go_wp2_with fail
        refine HSL.out.mono ?_
        rintro e w2 ⟨rfl, hb2⟩
        have HB2 := hide hb2
        clear hb2
        go_wp2_with fail
        refine (slw_any HN HNF (hide (HW.out.below HB2.out)) (hide (HA.out.below HB2.out))).mono ?_
        rintro e w3 ⟨v3, rfl, own3, hb3⟩
        rw [HL.out] at own3
        have HO3 := hide (own_low2 own3 HB2.out.size)
        have HB3 := hide (HB2.out.trans (hb3.mono HB2.out.size))
        obtain ⟨a3, c3, rfl⟩ := own_form2 own3
        clear own3 hb3 HB2
        go_wp2_with fail
        go_ret3
        exact ⟨_, rfl, HO3.out, HB3.out⟩
end Go.Proofs.Ytdpjkblondoimab
namespace Go.Proofs.Ytdpjkblondoimab
open Go.RowKit

/-- A list that a call made, from lo on and below hi. -/
def AV (w : World) (lo hi : Nat) (v : Value) (n : Nat) (xs : List Int) : Prop := w.ownsRow lo 3 1 v n (ints xs) ∧ (∀ g, v.ownBlock = some g → g < hi) ∧ hi ≤ w.heap.size
theorem AV.new {w : World} {lo n : Nat} {v : Value} {xs : List Int} (h : w.ownsRow lo 3 1 v n (ints xs)) : AV w lo w.heap.size v n xs := ⟨h, fun g hg => (h.lt g hg).2, Nat.le_refl _⟩
theorem AV.below {w w' : World} {lo hi n : Nat} {v : Value} {xs : List Int} (h : AV w lo hi v n xs) (hb : Below w.heap.size w w') : AV w' lo hi v n xs := ⟨own_below h.1 hb, h.2.1, Nat.le_trans h.2.2 hb.size⟩
theorem AV.rng {w w' : World} {lo hi n a b : Nat} {v : Value} {xs : List Int} (h : AV w lo hi v n xs) (hr : Rng a b w w') (hd : hi ≤ a ∨ b ≤ lo) : AV w' lo hi v n xs :=
  ⟨own_keep h.1 fun g hg hl => hr.2.2.2.2 g hl (by have := h.1.lt g hg; have := h.2.1 g hg; omega), h.2.1, Nat.le_trans h.2.2 hr.2.2.2.1⟩
theorem AV.grown {w w' : World} {lo hi n lo' hi' n' : Nat} {v v' : Value} {xs ys : List Int} (h : AV w lo hi v n xs) (h' : AV w lo' hi' v' n' ys) (hg : w.grownBy w' v'.ownBlock) (hd : hi ≤ lo' ∨ v.ownBlock = none ∨ v.ownBlock ≠ v'.ownBlock) : AV w' lo hi v n xs := by
  refine ⟨own_keep h.1 fun g hv hl => hg.block g hl fun e => ?_, h.2.1, Nat.le_trans h.2.2 hg.size⟩
  have h1 := h'.1.lt g e.symm
  have h2 := h.2.1 g hv
  rcases hd with hd | hd | hd
  · omega
  · rw [hd] at hv; cases hv
  · exact hd (hv.trans e)
theorem AV.under {w w' : World} {lo hi n k : Nat} {v : Value} {xs : List Int} (h : AV w lo hi v n xs) (hg : w.grownBy w' v.ownBlock) (hk : k ≤ lo) (hs : k ≤ w.heap.size) : Below k w w' := grown_under hg h.1 hk hs
/-- What is held from k on, in a list that lies from lo on and below hi. -/
def HV (w : World) (v : Value) (n : Nat) (k : Int) : Prop := HeldV w v n k
theorem HV.below {w w' : World} {v : Value} {n : Nat} {k : Int} (h : HV w v n k) (hb : Below w.heap.size w w') : HV w' v n k := HeldV.below h hb
theorem HV.grown {w w' : World} {v v' : Value} {n : Nat} {k : Int} (h : HV w v n k) (hg : w.grownBy w' v'.ownBlock) (hd : v.ownBlock = none ∨ v.ownBlock ≠ v'.ownBlock) : HV w' v n k := by
  rcases h with h | ⟨g, cap, rfl, hl, hc⟩
  · exact Or.inl h
  · refine Or.inr ⟨g, cap, rfl, Nat.lt_of_lt_of_le hl hg.size, fun j hj => (World.cell?_of_block (w := w) (a := ⟨g, j, none⟩) (hg.block g hl fun e => ?_)).trans (hc j hj)⟩
    rcases hd with hd | hd
    · cases hd
    · exact hd e
theorem eq_av {w : World} {lo hi lo' hi' n : Nat} {v v' : Value} {xs : List Int} (hx : Hid (xs.length = n)) (hn : n ≤ 1048576) (h : AV w lo hi v n xs) (h' : AV w lo' hi' v' n xs) :
    Calls Try.prog 9 #[v, v'] w fun e w' => e = .returned (.bool true) ∧ Below w.heap.size w w' := eqV_any hx.out hn h.1 h'.1
theorem mark_av {w : World} {lo hi n : Nat} {v : Value} {xs : List Int} {k : Int} (hx : Hid (xs.length = n)) (hn : n ≤ 1048576) (k0 : 0 ≤ k) (k1 : k ≤ 1000000000) (h : AV w lo hi v n xs) :
    Calls Try.prog 12 #[v, .int .i64 k] w fun e w' => e = .returned (.int .i64 (k + n)) ∧ HV w' v n k ∧ w.grownBy w' v.ownBlock := markV_any hx.out hn k0 k1 h.1
theorem held_hv {w : World} {n : Nat} {v : Value} {k : Int} (hn : n ≤ 1048576) (k0 : 0 ≤ k) (k1 : k ≤ 1000000000) (h : HV w v n k) :
    Calls Try.prog 13 #[v, .int .i64 k] w fun e w' => e = .returned (.int .i64 (k + n)) ∧ w' = w := heldV_any hn k0 k1 h
end Go.Proofs.Ytdpjkblondoimab
namespace Go.Proofs.Ytdpjkblondoimab
open Go.RowKit

theorem COw.keep {W W' : World} {B hi : Nat} {F : List (List Int)} (h : COw W B hi F) (hs : W.heap.size ≤ W'.heap.size) (hb : ∀ g, B ≤ g → g < hi → W'.heap[g]? = W.heap[g]?) : COw W' B hi F := by
  obtain ⟨h1, h2, gs, h3, h4⟩ := h
  refine ⟨Nat.le_trans h1 hs, h2, gs, h3, h4.1, own_keep2 h4.2.1 fun g hv _ => ?_, fun i hi' => own_keep2 (h4.2.2.1 i hi') fun g hv _ => ?_, h4.2.2.2⟩
  · have : B = g := by simpa [Value.ownBlock] using hv
    exact hb g (by omega) (by omega)
  · have e : gs.getD i 0 = g := by simpa [cv, Value.ownBlock] using hv
    have hm := h4.at_mem hi'
    rw [e] at hm
    have := h4.2.2.2.2 g hm
    exact hb g (by omega) (h3 g hm)
theorem COw.rng {W W' : World} {B hi a b : Nat} {F : List (List Int)} (h : COw W B hi F) (hr : Rng a b W W') (hd : hi ≤ a ∨ b ≤ B) : COw W' B hi F := h.keep hr.2.2.2.1 fun g h1 h2 => hr.2.2.2.2 g (by have := h.1; omega) (by omega)
set_option maxHeartbeats 2000000 in
theorem markC_k {B hi n : Nat} {F : List (List Int)} {w : World} {k0 : Int} (hk0 : 0 ≤ k0) (hk1 : k0 ≤ 2000000000000) (HN : Hid (F.length = n)) (hn' : n ≤ 1048576) (HL : Hid (∀ i, i < n → (F.getD i []).length ≤ 1048576)) (h : COw w B hi F) :
    Calls Try.prog 11 #[.slice (some ⟨B, 0, none⟩) n n, .int .i64 k0] w fun e w' => ∃ q : Int, e = .returned (.int .i64 q) ∧ 0 ≤ q ∧ q ≤ k0 + 1048576 * (n : Int) ∧ Rng B hi w w' := by
  obtain ⟨hz, hBz, gs, hgz, h⟩ := h
  have H := hide h
  have HZ := hide hgz
  clear h hgz
  go_enter Try.func11, Try.ntmps11
  go_wp2_with fail
  go_loopw [1, 5] (fun s t wr => ∃ (i : Nat) (q : Int), s = .int .i64 q ∧ t = .int .i64 i ∧ i ≤ n ∧ 0 ≤ q ∧ q ≤ k0 + 1048576 * (i : Int) ∧ Hid (MkC w wr B hi gs F i)) (fun _ t _ => n - (intOf t).toNat)
  case atStart =>
    refine ⟨0, k0, rfl, rfl, Nat.zero_le _, by omega, by omega, hide ⟨fun t ht => ?_, fun t _ ht => H.out.2.2.1 t ht, Rng.refl _ _ _⟩⟩
    rw [H.out.2.1.cellAt t (by omega)]
    simp [cvals, ht]
  case round =>
    obtain ⟨i, q, rfl, rfl, hi', q0, q1, HM⟩ := hrel
    by_cases hlt : i < n
    · have hiL : i < F.length := by rw [HN.out]; exact hlt
      have c0 := HM.out.1 i hiL
      have HO := hide (HM.out.2.1 i (Nat.le_refl _) hiL)
      have hln := HL.out i hlt
      unfold cv at c0 HO
      generalize hm : (F.getD i []).length = m at c0 HO hln
      generalize hg : gs.getD i 0 = g at c0 HO
      have i0 : (0 : Int) ≤ (i : Int) := by omega
      have i1 : (i : Int) < (n : Int) := by omega
      have HX := hide hm
      have HG := hide hg
      clear hm hg
      go_wp2_with fail
      refine (mark_any g m m B (F.getD i []) q _ HX.out (by omega) (by omega) (by omega) HO.out).mono ?_
      rintro e w2 ⟨rfl, _, hg2⟩
      have hgm : g ∈ gs := by rw [← HG.out]; exact H.out.at_mem hiL
      have hgb := (H.out.lt hgm)
      have hgh := HZ.out g hgm
      have hBg := H.out.2.2.2.2 g hgm
      have HM2 : Hid (MkC w w2 B hi gs F (i + 1)) := hide (by
        obtain ⟨m1, m2, m3⟩ := HM.out
        refine ⟨fun t ht => ?_, fun t h1 h2 => ?_, m3.grown hg2 (by omega) hgh⟩
        · have hBs := (H.out.2.1.lt B rfl).2
          have := m3.2.2.2.1
          exact (World.cell?_of_block (w := wr) (a := ⟨B, t, none⟩) (hg2.block B (by omega) (by simp; omega))).trans (m1 t ht)
        · refine (m2 t (by omega) h2).kept hg2 (Or.inr ?_)
          have := lt_of_pw8 H.out.2.2.2.1 (show i < t by omega) (by rw [H.out.1]; exact h2)
          rw [HG.out] at this
          simp only [cv, Value.ownBlock, ne_eq, Option.some.injEq]
          omega)
      clear hg2
      go_wp2_with fail
      go_roundw
      case rel => exact ⟨i + 1, q + m, rfl, by go_num, by omega, by omega, by omega, HM2⟩
      case measure => simp only [intOf]; omega
    · have hie : i = n := by omega
      subst hie
      go_wp2_with fail
      go_ret
      exact ⟨q, rfl, q0, q1, HM.out.2.2⟩
end Go.Proofs.Ytdpjkblondoimab
namespace Go.Proofs.Ytdpjkblondoimab
open Go.RowKit

theorem lt3 {a b : Nat} (h : a + 1 + 1 < b) : a < b ∧ a + 1 < b := ⟨by omega, by omega⟩
theorem fracs_no (P : Program) (f : FuncId) (args : Array Value) (w : World) (a b : Int) (c : Bool) (ha : a = 0) (hb : b = 0) (hc : c = false)
    (h : Calls P f args w fun e w' => e = .returned (.tuple #[.agg #[.int .i64 0, .int .i64 0], .bool false]) ∧ Below w.heap.size w w') :
    Calls P f args w fun e w' => e = .returned (.tuple #[.agg #[.int .i64 a, .int .i64 b], .bool c]) ∧ Below w.heap.size w w' := by
  subst ha; subst hb; subst hc; exact h



end Go.Proofs.Ytdpjkblondoimab
namespace Go.Proofs.Ytdpjkblondoimab
open Go.RowKit

end Go.Proofs.Ytdpjkblondoimab
namespace Go.Proofs.Ytdpjkblondoimab
open Go.RowKit


theorem lt_of_some {W : World} {b o : Nat} (h : (W.cell? ⟨b, o, none⟩).isSome = true) : b < W.heap.size := by
  apply Nat.lt_of_not_le
  intro hle
  have : W.heap[b]? = none := by simp; omega
  simp [World.cell?, this] at h
theorem bsome {W w1 : World} (hb : Below W.heap.size W w1) : (∀ b o, (W.cell? ⟨b, o, none⟩).isSome = true → w1.cell? ⟨b, o, none⟩ = W.cell? ⟨b, o, none⟩) ∧ (∀ b o, (W.cell? ⟨b, o, none⟩).isSome = true → w1.frozen? ⟨b, o, none⟩ = W.frozen? ⟨b, o, none⟩) :=
  ⟨fun b o h => hb.cell (p := ⟨b, o, none⟩) (lt_of_some h), fun b o h => hb.frozen (p := ⟨b, o, none⟩) (lt_of_some h)⟩
theorem new_var {W w1 : World} (hb : Below W.heap.size W w1) (b : Nat) (v0 v1 : Value) (h0 : W.cell? ⟨b, 0, none⟩ = some v0) (h1 : W.cell? ⟨b, 1, none⟩ = some v1) (h2 : W.frozen? ⟨b, 0, none⟩ = false) (h3 : W.frozen? ⟨b, 1, none⟩ = false) :
    w1.cell? ⟨b, 0, none⟩ = some v0 ∧ w1.cell? ⟨b, 1, none⟩ = some v1 ∧ w1.frozen? ⟨b, 0, none⟩ = false ∧ w1.frozen? ⟨b, 1, none⟩ = false := by
  obtain ⟨hc, hf⟩ := bsome hb
  exact ⟨(hc _ _ (by rw [h0]; rfl)).trans h0, (hc _ _ (by rw [h1]; rfl)).trans h1, (hf _ _ (by rw [h0]; rfl)).trans h2, (hf _ _ (by rw [h1]; rfl)).trans h3⟩
theorem new_first {w w1 : World} {a b : Obj} {v0 v1 : Value} {t : TypeId} (hb : Below (((w.alloc a).alloc b).alloc (.cells #[v0, v1] t)).drew.heap.size (((w.alloc a).alloc b).alloc (.cells #[v0, v1] t)).drew w1) :
    w1.cell? ⟨w.heap.size + 1 + 1, 0, none⟩ = some v0 ∧ w1.cell? ⟨w.heap.size + 1 + 1, 1, none⟩ = some v1 ∧ w1.frozen? ⟨w.heap.size + 1 + 1, 0, none⟩ = false ∧ w1.frozen? ⟨w.heap.size + 1 + 1, 1, none⟩ = false :=
  new_var hb _ v0 v1 (by simp [go_sem]) (by simp [go_sem]) (by simp [go_sem]) (by simp [go_sem])
theorem last_cell {W w1 : World} (hb : Below W.heap.size W w1) (o : Nat) : (W.cell? ⟨W.heap.size - 1, o, none⟩).isSome = true → w1.cell? ⟨W.heap.size - 1, o, none⟩ = W.cell? ⟨W.heap.size - 1, o, none⟩ := (bsome hb).1 _ _
theorem last_frozen {W w1 : World} (hb : Below W.heap.size W w1) (o : Nat) : (W.cell? ⟨W.heap.size - 1, o, none⟩).isSome = true → w1.frozen? ⟨W.heap.size - 1, o, none⟩ = W.frozen? ⟨W.heap.size - 1, o, none⟩ := (bsome hb).2 _ _
theorem set1 {W : World} {b i : Nat} {x : Value} (h : (W.cell? ⟨b, i, none⟩).isSome = true) : (W.setCell ⟨b, i, none⟩ x).cell? ⟨b, i, none⟩ = some x := by
  obtain ⟨v, hv⟩ := Option.isSome_iff_exists.1 h
  exact World.cell?_setCell_same _ _ _ hv
theorem set2 {W : World} {b : Nat} {x y : Value} (h0 : (W.cell? ⟨b, 0, none⟩).isSome = true) (h1 : (W.cell? ⟨b, 1, none⟩).isSome = true) :
    ((W.setCell ⟨b, 0, none⟩ x).setCell ⟨b, 1, none⟩ y).cell? ⟨b, 0, none⟩ = some x ∧ ((W.setCell ⟨b, 0, none⟩ x).setCell ⟨b, 1, none⟩ y).cell? ⟨b, 1, none⟩ = some y ∧ b < ((W.setCell ⟨b, 0, none⟩ x).setCell ⟨b, 1, none⟩ y).heap.size := by
  refine ⟨?_, ?_, ?_⟩
  · rw [World.cell?_setCell_other _ _ _ _ (by simp)]; exact set1 h0
  · exact set1 (by rw [World.cell?_setCell_other _ _ _ _ (by simp)]; exact h1)
  · simpa using lt_of_some h0
theorem held_below {w w1 w2 : World} {n1 d1 n2 d2 : Int}
    (s : w1.cell? ⟨w.heap.size, 0, none⟩ = some (.int .i64 n1) ∧ w1.cell? ⟨w.heap.size, 1, none⟩ = some (.int .i64 d1) ∧ w1.cell? ⟨w.heap.size + 1, 0, none⟩ = some (.int .i64 n2) ∧ w1.cell? ⟨w.heap.size + 1, 1, none⟩ = some (.int .i64 d2) ∧ Below w.heap.size w w1 ∧ w.heap.size + 1 < w1.heap.size)
    (hb : Below w1.heap.size w1 w2) :
    w2.cell? ⟨w.heap.size, 0, none⟩ = some (.int .i64 n1) ∧ w2.cell? ⟨w.heap.size, 1, none⟩ = some (.int .i64 d1) ∧ w2.cell? ⟨w.heap.size + 1, 0, none⟩ = some (.int .i64 n2) ∧ w2.cell? ⟨w.heap.size + 1, 1, none⟩ = some (.int .i64 d2) ∧ Below w.heap.size w w2 ∧ w.heap.size + 1 < w2.heap.size := by
  obtain ⟨s0, s1, s2, s3, s4, s5⟩ := s
  obtain ⟨hc, _⟩ := bcell hb
  exact ⟨(hc _ _ (by omega)).trans s0, (hc _ _ (by omega)).trans s1, (hc _ _ s5).trans s2, (hc _ _ s5).trans s3, s4.trans (hb.mono (by omega)), Nat.lt_of_lt_of_le s5 hb.size⟩
theorem below_alloc_drew (w : World) (o : Obj) : Below w.drew.heap.size w.drew (w.alloc o).drew := (Below.refl _ w.drew).alloc (Nat.le_refl _) o
theorem below_alloc (w : World) (o : Obj) : Below w.heap.size w (w.alloc o) := (Below.refl _ _).alloc (Nat.le_refl _) o
theorem held_start (w : World) (n1 d1 n2 d2 : Int) (t : TypeId) :
    ((w.alloc (.cells #[.int .i64 n1, .int .i64 d1] t)).alloc (.cells #[.int .i64 n2, .int .i64 d2] t)).cell? ⟨w.heap.size, 0, none⟩ = some (.int .i64 n1) ∧ ((w.alloc (.cells #[.int .i64 n1, .int .i64 d1] t)).alloc (.cells #[.int .i64 n2, .int .i64 d2] t)).cell? ⟨w.heap.size, 1, none⟩ = some (.int .i64 d1) ∧ ((w.alloc (.cells #[.int .i64 n1, .int .i64 d1] t)).alloc (.cells #[.int .i64 n2, .int .i64 d2] t)).cell? ⟨w.heap.size + 1, 0, none⟩ = some (.int .i64 n2) ∧ ((w.alloc (.cells #[.int .i64 n1, .int .i64 d1] t)).alloc (.cells #[.int .i64 n2, .int .i64 d2] t)).cell? ⟨w.heap.size + 1, 1, none⟩ = some (.int .i64 d2) ∧ Below w.heap.size w ((w.alloc (.cells #[.int .i64 n1, .int .i64 d1] t)).alloc (.cells #[.int .i64 n2, .int .i64 d2] t)) ∧ w.heap.size + 1 < ((w.alloc (.cells #[.int .i64 n1, .int .i64 d1] t)).alloc (.cells #[.int .i64 n2, .int .i64 d2] t)).heap.size :=
  ⟨by simp, by simp, by simp, by simp, ((Below.refl _ _).alloc (Nat.le_refl _) _).alloc (by simp) _, by simp⟩
theorem held_alloc {w w1 : World} {n1 d1 n2 d2 : Int} {o : Obj}
    (s : w1.cell? ⟨w.heap.size, 0, none⟩ = some (.int .i64 n1) ∧ w1.cell? ⟨w.heap.size, 1, none⟩ = some (.int .i64 d1) ∧ w1.cell? ⟨w.heap.size + 1, 0, none⟩ = some (.int .i64 n2) ∧ w1.cell? ⟨w.heap.size + 1, 1, none⟩ = some (.int .i64 d2) ∧ Below w.heap.size w w1 ∧ w.heap.size + 1 < w1.heap.size) :
    (w1.alloc o).cell? ⟨w.heap.size, 0, none⟩ = some (.int .i64 n1) ∧ (w1.alloc o).cell? ⟨w.heap.size, 1, none⟩ = some (.int .i64 d1) ∧ (w1.alloc o).cell? ⟨w.heap.size + 1, 0, none⟩ = some (.int .i64 n2) ∧ (w1.alloc o).cell? ⟨w.heap.size + 1, 1, none⟩ = some (.int .i64 d2) ∧ Below w.heap.size w (w1.alloc o) ∧ w.heap.size + 1 < (w1.alloc o).heap.size := held_below s (below_alloc _ _)
theorem held_drew {w w1 : World} {n1 d1 n2 d2 : Int}
    (s : w1.cell? ⟨w.heap.size, 0, none⟩ = some (.int .i64 n1) ∧ w1.cell? ⟨w.heap.size, 1, none⟩ = some (.int .i64 d1) ∧ w1.cell? ⟨w.heap.size + 1, 0, none⟩ = some (.int .i64 n2) ∧ w1.cell? ⟨w.heap.size + 1, 1, none⟩ = some (.int .i64 d2) ∧ Below w.heap.size w w1 ∧ w.heap.size + 1 < w1.heap.size) :
    w1.drew.cell? ⟨w.heap.size, 0, none⟩ = some (.int .i64 n1) ∧ w1.drew.cell? ⟨w.heap.size, 1, none⟩ = some (.int .i64 d1) ∧ w1.drew.cell? ⟨w.heap.size + 1, 0, none⟩ = some (.int .i64 n2) ∧ w1.drew.cell? ⟨w.heap.size + 1, 1, none⟩ = some (.int .i64 d2) ∧ Below w.heap.size w w1.drew ∧ w.heap.size + 1 < w1.drew.heap.size := held_below s ((Below.refl _ _).drew)
theorem held_set {w w1 : World} {n1 d1 n2 d2 : Int} {b i : Nat} {v : Value}
    (s : w1.cell? ⟨w.heap.size, 0, none⟩ = some (.int .i64 n1) ∧ w1.cell? ⟨w.heap.size, 1, none⟩ = some (.int .i64 d1) ∧ w1.cell? ⟨w.heap.size + 1, 0, none⟩ = some (.int .i64 n2) ∧ w1.cell? ⟨w.heap.size + 1, 1, none⟩ = some (.int .i64 d2) ∧ Below w.heap.size w w1 ∧ w.heap.size + 1 < w1.heap.size)
    (hb : w.heap.size + 1 < b) :
    (w1.setCell ⟨b, i, none⟩ v).cell? ⟨w.heap.size, 0, none⟩ = some (.int .i64 n1) ∧ (w1.setCell ⟨b, i, none⟩ v).cell? ⟨w.heap.size, 1, none⟩ = some (.int .i64 d1) ∧ (w1.setCell ⟨b, i, none⟩ v).cell? ⟨w.heap.size + 1, 0, none⟩ = some (.int .i64 n2) ∧ (w1.setCell ⟨b, i, none⟩ v).cell? ⟨w.heap.size + 1, 1, none⟩ = some (.int .i64 d2) ∧ Below w.heap.size w (w1.setCell ⟨b, i, none⟩ v) ∧ w.heap.size + 1 < (w1.setCell ⟨b, i, none⟩ v).heap.size := by
  obtain ⟨s0, s1, s2, s3, s4, s5⟩ := s
  have hb' : Below b w1 (w1.setCell ⟨b, i, none⟩ v) := (Below.refl b w1).setCell (p := ⟨b, i, none⟩) (Nat.le_refl b) v
  exact ⟨(hb'.cell (p := ⟨_, _, none⟩) (by show w.heap.size < b; omega)).trans s0, (hb'.cell (p := ⟨_, _, none⟩) (by show w.heap.size < b; omega)).trans s1, (hb'.cell (p := ⟨_, _, none⟩) hb).trans s2, (hb'.cell (p := ⟨_, _, none⟩) hb).trans s3, s4.setCell (by show w.heap.size ≤ b; omega) v, by simpa using s5⟩
theorem held2_below {w wc w1 w2 : World} {n1 d1 n2 d2 RN RD : Int} {b : Nat}
    (s : w1.cell? ⟨w.heap.size, 0, none⟩ = some (.int .i64 n1) ∧ w1.cell? ⟨w.heap.size, 1, none⟩ = some (.int .i64 d1) ∧ w1.cell? ⟨w.heap.size + 1, 0, none⟩ = some (.int .i64 n2) ∧ w1.cell? ⟨w.heap.size + 1, 1, none⟩ = some (.int .i64 d2) ∧ w1.cell? ⟨b, 0, none⟩ = some (.int .i64 RN) ∧ w1.cell? ⟨b, 1, none⟩ = some (.int .i64 RD) ∧ Below w.heap.size w w1 ∧ w.heap.size + 1 < w1.heap.size ∧ wc.heap.size ≤ w1.heap.size ∧ b < wc.heap.size)
    (hb : Below w1.heap.size w1 w2) :
    w2.cell? ⟨w.heap.size, 0, none⟩ = some (.int .i64 n1) ∧ w2.cell? ⟨w.heap.size, 1, none⟩ = some (.int .i64 d1) ∧ w2.cell? ⟨w.heap.size + 1, 0, none⟩ = some (.int .i64 n2) ∧ w2.cell? ⟨w.heap.size + 1, 1, none⟩ = some (.int .i64 d2) ∧ w2.cell? ⟨b, 0, none⟩ = some (.int .i64 RN) ∧ w2.cell? ⟨b, 1, none⟩ = some (.int .i64 RD) ∧ Below w.heap.size w w2 ∧ w.heap.size + 1 < w2.heap.size ∧ wc.heap.size ≤ w2.heap.size ∧ b < wc.heap.size := by
  obtain ⟨s0, s1, s2, s3, s4, s5, s6, s7, s8, s9⟩ := s
  obtain ⟨hc, _⟩ := bcell hb
  exact ⟨(hc _ _ (by omega)).trans s0, (hc _ _ (by omega)).trans s1, (hc _ _ s7).trans s2, (hc _ _ s7).trans s3, (hc _ _ (by omega)).trans s4, (hc _ _ (by omega)).trans s5, s6.trans (hb.mono (by omega)), Nat.lt_of_lt_of_le s7 hb.size, Nat.le_trans s8 hb.size, s9⟩
theorem held2_set {w wc w1 : World} {n1 d1 n2 d2 RN RD : Int} {b c i : Nat} {v : Value}
    (s : w1.cell? ⟨w.heap.size, 0, none⟩ = some (.int .i64 n1) ∧ w1.cell? ⟨w.heap.size, 1, none⟩ = some (.int .i64 d1) ∧ w1.cell? ⟨w.heap.size + 1, 0, none⟩ = some (.int .i64 n2) ∧ w1.cell? ⟨w.heap.size + 1, 1, none⟩ = some (.int .i64 d2) ∧ w1.cell? ⟨b, 0, none⟩ = some (.int .i64 RN) ∧ w1.cell? ⟨b, 1, none⟩ = some (.int .i64 RD) ∧ Below w.heap.size w w1 ∧ w.heap.size + 1 < w1.heap.size ∧ wc.heap.size ≤ w1.heap.size ∧ b < wc.heap.size)
    (hx : w.heap.size + 1 < c) (hy : wc.heap.size ≤ c) :
    (w1.setCell ⟨c, i, none⟩ v).cell? ⟨w.heap.size, 0, none⟩ = some (.int .i64 n1) ∧ (w1.setCell ⟨c, i, none⟩ v).cell? ⟨w.heap.size, 1, none⟩ = some (.int .i64 d1) ∧ (w1.setCell ⟨c, i, none⟩ v).cell? ⟨w.heap.size + 1, 0, none⟩ = some (.int .i64 n2) ∧ (w1.setCell ⟨c, i, none⟩ v).cell? ⟨w.heap.size + 1, 1, none⟩ = some (.int .i64 d2) ∧ (w1.setCell ⟨c, i, none⟩ v).cell? ⟨b, 0, none⟩ = some (.int .i64 RN) ∧ (w1.setCell ⟨c, i, none⟩ v).cell? ⟨b, 1, none⟩ = some (.int .i64 RD) ∧ Below w.heap.size w (w1.setCell ⟨c, i, none⟩ v) ∧ w.heap.size + 1 < (w1.setCell ⟨c, i, none⟩ v).heap.size ∧ wc.heap.size ≤ (w1.setCell ⟨c, i, none⟩ v).heap.size ∧ b < wc.heap.size := by
  obtain ⟨s0, s1, s2, s3, s4, s5, s6, s7, s8, s9⟩ := s
  have hb' : Below c w1 (w1.setCell ⟨c, i, none⟩ v) := (Below.refl c w1).setCell (p := ⟨c, i, none⟩) (Nat.le_refl c) v
  have hc : ∀ x o, x < c → (w1.setCell ⟨c, i, none⟩ v).cell? ⟨x, o, none⟩ = w1.cell? ⟨x, o, none⟩ := fun x o h => hb'.cell (p := ⟨x, o, none⟩) h
  exact ⟨(hc _ _ (by omega)).trans s0, (hc _ _ (by omega)).trans s1, (hc _ _ (by omega)).trans s2, (hc _ _ (by omega)).trans s3, (hc _ _ (by omega)).trans s4, (hc _ _ (by omega)).trans s5, s6.setCell (by show w.heap.size ≤ c; omega) v, by simpa using s7, by simpa using s8, s9⟩
end Go.Proofs.Ytdpjkblondoimab
namespace Go.Proofs.Ytdpjkblondoimab
open Go.RowKit

def Car (w0 w : World) (a b : Option Addr) (xs ys : List Int) : Prop := ARow w a xs ∧ ARow w b ys ∧ Below w0.heap.size w0 w
theorem Car.step {w0 w w' : World} {a b : Option Addr} {xs ys : List Int} (h : Car w0 w a b xs ys) (hb : Below w.heap.size w w') : Car w0 w' a b xs ys :=
  ⟨h.1.below hb, h.2.1.below hb, h.2.2.trans (hb.mono h.2.2.size)⟩
theorem Car.alloc {w0 w : World} {a b : Option Addr} {xs ys : List Int} (h : Car w0 w a b xs ys) (o : Obj) : Car w0 (w.alloc o) a b xs ys := h.step (below_alloc _ _)
theorem toI_a {a : Option Addr} {n : Nat} {xs : List Int} {w : World} (c : Nat) (hx : Hid (xs.length = n)) (hn : n ≤ 1048576) (ha : ARow w a xs) :
    Calls Try.prog 15 #[.slice a n c] w fun e w' => e = .returned (.slice (some ⟨w.heap.size, 0, none⟩) n n) ∧ Below w.heap.size w w' ∧ ARow w' (some ⟨w.heap.size, 0, none⟩) xs :=
  (toI_own a c n xs w hx.out hn ha).mono fun _ _ ⟨h1, h2, _, h4⟩ => ⟨h1, h2, arow_owns hx.out.symm h4⟩
end Go.Proofs.Ytdpjkblondoimab
namespace Go.Proofs.Ytdpjkblondoimab
open Go.ChangeShapes Go.WideShapes Go.ChangeAt Go.RowKit Go.Deep

theorem laidOut' : laidOutB Try.prog = true := by kernel_rfl

set_option maxRecDepth 100000 in
theorem opened_ints {H : Type} {enc : TypeId × Value → H} {W : World} {fuel : Nat} {c : Value} {x : DataW H × List MemPlace} {sp : Nat → Bool}
    (hf : DataW.trod enc Try.prog W 0 sp true fuel 24 [c] = some x) : ∃ (a : Option Addr) (xs : List Int) (cap : Nat), c = .slice a xs.length cap ∧ xs.length ≤ maxLen ∧ ARow W a xs := by
  rcases open_ints Try.underlying24 Try.underlying3 (by kernel_rfl) hf with ⟨hcs, _⟩ | ⟨a, len, cap, zs, hcs, _, hl, hcap, hzl, _, hcell, _⟩
  · simp at hcs
    subst hcs
    exact ⟨none, [], 0, rfl, by simp, Or.inl rfl⟩
  · simp at hcs
    subst hcs
    have hlm : len ≤ zs.length := by rw [hzl]; split <;> omega
    refine ⟨some a, zs.take len, cap, by simp [hlm], by simp [hlm]; omega, ?_⟩
    by_cases h : len = 0
    · left; subst h; rfl
    · right
      obtain ⟨b, off, spot⟩ := a
      have hc := hcell 0 (by omega)
      have hspot : spot = none := by simpa [Addr.add] using World.cell?_spot hc
      subst hspot
      refine ⟨b, off, rfl, World.block_lt_of_cell? W _ hc, ?_⟩
      intro i hi
      simp [hlm] at hi
      have hci := hcell i (by omega)
      rw [add_plain] at hci
      rw [hci]
      simp [hi]

set_option maxRecDepth 100000 in
theorem opened_slice {H : Type} {enc : TypeId × Value → H} {W : World} {base : Nat} {v : Value} {x : DataW H} {p : List MemPlace} {sp : Nat → Bool} (hv : Value.okWide Try.prog W .any base 24 v)
    (h0 : DataW.Trod enc Try.prog W 0 sp true 24 v x p) : ∃ (a : Option Addr) (xs : List Int) (c : Nat), v = .slice a xs.length c ∧ xs.length ≤ maxLen ∧ ARow W a xs := by
  obtain ⟨a0, len0, cap0, rfl⟩ := okWide_slice Try.underlying24 hv
  obtain ⟨fuel, hf⟩ := h0
  exact opened_ints hf
theorem cellsS : Try.prog.cellsOf 24 = 1 := by kernel_rfl
end Go.Proofs.Ytdpjkblondoimab
namespace Go.Proofs.Ytdpjkblondoimab
open Go.ChangeShapes Go.WideShapes Go.ChangeAt Go.RowKit Go.Deep

theorem cellsCs : Try.prog.cellsOf 24 = 1 := by kernel_rfl
theorem cellsC1 : Try.prog.cellsOf 3 = 1 := by kernel_rfl
set_option maxRecDepth 100000 in
theorem opened_costs {H : Type} {enc : TypeId × Value → H} {W : World} {base : Nat} {v : Value} {x : DataW H} {p : List MemPlace} (hv : Value.okWide Try.prog W .any base 22 v)
    (h0 : DataW.Trod enc Try.prog W 0 (fun _ => true) true 22 v x p) : ∃ (a : Option Addr) (F : List (List Int)) (c : Nat), v = .slice a F.length c ∧ F.length ≤ maxLen ∧ CFits F ∧ CRow W a F := by
  obtain ⟨a0, len0, cap0, rfl⟩ := okWide_slice Try.underlying22 hv
  obtain ⟨fuel, hf⟩ := h0
  rcases open_int_rows Try.underlying22 Try.underlying24 Try.underlying3 cellsCs cellsC1 hf with ⟨hcs, _⟩ | ⟨a, len, cap, A, L, C, B, hcs, _, hl, hcap, _, hx⟩
  · simp [Value.cells] at hcs
    obtain ⟨rfl, rfl, rfl⟩ := hcs
    exact ⟨none, [], 0, rfl, Nat.zero_le _, fun i => by simp, Or.inl rfl⟩
  · simp [Value.cells] at hcs
    obtain ⟨rfl, rfl, rfl⟩ := hcs
    have hget : ∀ i, i < len0 → ((List.range len0).map fun i => (List.range (L i)).map (fun j => (B i).getD j 0)).getD i [] = (List.range (L i)).map (fun j => (B i).getD j 0) := fun i hi => by simp [hi]
    have hlen : ∀ i, i < len0 → (((List.range len0).map fun i => (List.range (L i)).map (fun j => (B i).getD j 0)).getD i []).length = L i := fun i hi => by rw [hget i hi]; simp
    refine ⟨some a, (List.range len0).map fun i => (List.range (L i)).map (fun j => (B i).getD j 0), cap0, by simp, by simp; omega, fun i => ?_, ?_⟩
    · by_cases hi : i < len0
      · rw [hlen i hi]; have := hx i (by omega); omega
      · simp [show len0 ≤ i by omega]
    · by_cases h : len0 = 0
      · left; subst h; rfl
      · right
        obtain ⟨b, off, spot⟩ := a
        have hc := (hx 0 (by omega)).1
        have hspot : spot = none := by simpa [Addr.add] using World.cell?_spot hc
        subst hspot
        refine ⟨b, off, rfl, World.block_lt_of_cell? W _ hc, ?_⟩
        intro i hi
        simp at hi
        obtain ⟨c0, hLC, hCm, _, _, hnone, hsome⟩ := hx i (by omega)
        rw [add_plain] at c0
        rw [hlen i hi, hget i hi]
        refine ⟨A i, C i, c0, ?_⟩
        by_cases hL : L i = 0
        · left; rw [hL]; rfl
        · right
          obtain ⟨a', ha'⟩ : ∃ a', A i = some a' := by
            cases e : A i with
            | none => have := hnone e; omega
            | some a' => exact ⟨a', rfl⟩
          obtain ⟨_, hcell⟩ := hsome a' ha'
          obtain ⟨b', off', spot'⟩ := a'
          have hc' := hcell 0 (by omega)
          have hspot' : spot' = none := by simpa [Addr.add] using World.cell?_spot hc'
          subst hspot'
          refine ⟨b', off', ha', World.block_lt_of_cell? W _ hc', fun j hj => ?_⟩
          simp at hj
          have := hcell j (by omega)
          rw [add_plain] at this
          rw [this]
          simp [hj]
end Go.Proofs.Ytdpjkblondoimab
