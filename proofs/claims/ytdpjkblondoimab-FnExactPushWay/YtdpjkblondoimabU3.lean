/-
  In one: Fk13, Gd13, Fz13, Fu13, Fp13, Ge13, Gf13, Lz13, Jm10, Gb13, Sk, Op, Qo.
-/
import Derived.Test.YtdpjkblondoimabU2
import Derived.Test.YtdpjkblondoimabU1
import Derived.Deep.DeepCutAuto
import Derived.ChangeSlices
import Derived.ProofKit
import Derived.OpenShut
import Derived.ChangeOld
import Derived.Below
import Derived.Deep.SlicePairs
import Derived.Deep.Matrix
namespace Go.Proofs.Ytdpjkblondoimab
open Go.RowKit

set_option maxHeartbeats 4000000 in
theorem ra13 {a : Option Addr} {b o n c m d : Nat} {R : List (List Int)} {P : List Int} {w : World} (HN : Hid (R.length = n)) (HRW : Hid (∀ i, i < n → (R.getD i []).length = n)) (H : Hid (CRow w a R)) (HM : Hid (P.length = m)) (h1 : 2 ≤ m) (hm : m ≤ 1000) (hd : m ≤ d) (HP : Hid (ARow w (some ⟨b, o, none⟩) P)) (HLO : Hid (∀ i, i < m → 0 ≤ P.getD i 0 ∧ P.getD i 0 < (n : Int))) :
    Calls Try.prog 31 #[.slice a n c, .slice (some ⟨b, o, none⟩) m d] w fun e w' => ∃ v, e = .returned v ∧ w'.ownsRow w.heap.size 3 1 v (m - 1) (ints (Nt.along R P)) ∧ Below w.heap.size w w' := by
  have m1 : (1 : Int) ≤ (m : Int) := by omega
  have md : (m : Int) ≤ (d : Int) := by omega
  have hd1 : ¬ d = 1 := by omega
  go_enter Try.func31, Try.ntmps31
  go_wp2_with fail
  go_loopw [5, 6, 7, 11] (fun s5 _ _ sk wr => ∃ (k : Nat), sk = .int .i64 k ∧ k ≤ m - 1 ∧ Hid (wr.ownsRow w.heap.size 3 1 s5 k (ints ((Nt.along R P).take k))) ∧ Hid (Below w.heap.size w wr)) (fun _ _ _ sk _ => m - 1 - (intOf sk).toNat)
  case atStart => exact ⟨0, rfl, Nat.zero_le _, hide (World.ownsRow_nil _ _ _ _), hide (Below.refl _ _)⟩
  case round =>
    obtain ⟨k, rfl, hk, HO, HB⟩ := hrel
    obtain ⟨a5, c5, e5⟩ := own_form2 HO.out
    subst e5
    by_cases hlt : k < m - 1
    · have l1 := HLO.out k (by omega)
      have l2 := HLO.out (k + 1) (by omega)
      have r1 := arow_behind (HP.out.below HB.out) (i := k) (by rw [HM.out]; omega)
      obtain ⟨b0, o0, e0, r2⟩ := (HP.out.below HB.out).at (i := k) (by rw [HM.out]; omega)
      cases e0
      have HS := hide (Nt.along_snoc R P (k := k) (by rw [HM.out]; omega))
      obtain ⟨p, ep⟩ : ∃ p : Nat, P.getD k 0 = (p : Int) := ⟨(P.getD k 0).toNat, by omega⟩
      obtain ⟨q, eq⟩ : ∃ q : Nat, P.getD (k + 1) 0 = (q : Int) := ⟨(P.getD (k + 1) 0).toNat, by omega⟩
      rw [ep] at r2 l1 HS
      rw [eq] at r1 l2 HS
      rw [Int.toNat_natCast, Int.toNat_natCast] at HS
      obtain ⟨b1, o1, ai, ci, rfl, hb, r3, R3⟩ := (H.out.below HB.out).at (i := p) (by rw [HN.out]; omega)
      rw [HRW.out p (by omega)] at r3
      obtain ⟨b2, o2, rfl, r4⟩ := R3.at (i := q) (by rw [HRW.out p (by omega)]; omega)
      have r5 : wr.cell? ⟨b2, o2 + q, none⟩ = some (.int .i64 (Nt.at2 R p q)) := r4
      have p0 : (0 : Int) ≤ (p : Int) := by omega
      have p1 : (p : Int) < (n : Int) := by omega
      have q0 : (0 : Int) ≤ (q : Int) := by omega
      have q1 : (q : Int) < (n : Int) := by omega
      have k0 : (0 : Int) ≤ (k : Int) := by omega
      have k1 : (k : Int) < (m : Int) - 1 := by omega
      have k2 : (k : Int) < (m : Int) := by omega
      have k3 : (k : Int) < ((m - 1 : Nat) : Int) := by omega
      generalize Nt.at2 R p q = x at *
      obtain ⟨v6, w6, p6, o6, g6⟩ := push_int (x := x) HO.out (by omega) HB.out.size
      have HO6 : Hid (w6.ownsRow w.heap.size 3 1 v6 (k + 1) (ints ((Nt.along R P).take (k + 1)))) := hide (by rw [← HS.out, ints_snoc]; exact o6)
      have HB6 := hide (HB.out.trans (grown_under' g6 HO.out (Nat.le_refl _) HB.out.size))
      clear o6 g6 HO HB HS r4 R3 l1 l2
      go_wp2_with (first | (at_builtin; refine Lib.wpList_append_run _ rfl (.tmp 16) (.tmp 27) 24 24 rfl _ _ rfl rfl _ _ (p6 _) ?_))
      go_roundw
      case rel => exact ⟨k + 1, by go_num, by omega, HO6, HB6⟩
      case measure => simp only [intOf]; omega
    · have hke : k = m - 1 := by omega
      have k3 : ¬ (k : Int) < ((m - 1 : Nat) : Int) := by omega
      have k4 : ¬ (k : Int) < (m : Int) - 1 := by omega
      have HE : Hid ((Nt.along R P).take k = Nt.along R P) := hide (List.take_of_length_le (by rw [Nt.along_len, HM.out]; omega))
      rw [HE.out] at HO
      subst hke
      go_wp2_with fail
      go_ret
      exact ⟨_, rfl, HO.out, HB.out⟩
theorem lst_one (r : List Int) : Nt.lstTo r 1 = r.getD 0 0 := by show min (r.getD 0 0) (r.getD 0 0) = _; omega
set_option maxHeartbeats 1000000 in
theorem min13 {a : Option Addr} {n c : Nat} {r : List Int} {w : World} (hn : r.length = n) (h1 : 1 ≤ n) (h10 : n ≤ 1000) (ha : ARow w a r) :
    Calls Try.prog 30 #[.slice a n c] w fun e w' => e = .returned (.int .i64 (Nt.lst r)) ∧ w' = w := by
  obtain ⟨b0, o0, rfl, r0⟩ := ha.at (i := 0) (by omega)
  have HA := hide ha
  have HN := hide hn
  have HS : Hid (∀ k, min (Nt.lstTo r k) (r.getD k 0) = Nt.lstTo r (k + 1)) := hide fun k => rfl
  have H1 := hide (lst_one r)
  have HE : Hid (Nt.lstTo r n = Nt.lst r) := hide (by rw [Nt.lst, hn])
  have i0 : ¬ (n : Int) < 1 := by omega
  have i1 : (0 : Int) < (n : Int) := by omega
  rw [← H1.out, Nat.add_zero] at r0
  clear ha hn
  go_enter Try.func30, Try.ntmps30
  go_wp2_with fail
  go_loop [3, 4] (fun s3 s => ∃ (k : Nat) (x : Int), s = .int .i64 k ∧ s3 = .int .i64 x ∧ 1 ≤ k ∧ k ≤ n ∧ Hid (x = Nt.lstTo r k)) (fun _ s => n - (intOf s).toNat)
  case atStart => exact ⟨1, _, rfl, rfl, Nat.le_refl _, h1, hide rfl⟩
  case round =>
    obtain ⟨k, x, rfl, rfl, k1, hk, HX⟩ := hrel
    by_cases hlt : k < n
    · obtain ⟨b, off, e0, r1⟩ := HA.out.at (i := k) (by rw [HN.out]; exact hlt)
      cases e0
      have j0 : (0 : Int) ≤ (k : Int) := by omega
      have j1 : (k : Int) < (n : Int) := by omega
      have HX1 : Hid (min x (r.getD k 0) = Nt.lstTo r (k + 1)) := hide (by rw [HX.out]; exact HS.out k)
      generalize r.getD k 0 = y at *
      go_wp2_with fail
      go_round
      case rel => exact ⟨k + 1, min x y, by go_num, by go_num, by omega, by omega, HX1⟩
      case measure => simp only [intOf]; omega
    · have hke : k = n := by omega
      subst hke
      go_wp2_with fail
      go_ret
      exact ⟨ret_int (HX.out.trans HE.out), rfl⟩
theorem clone13 {b o n c : Nat} {xs : List Int} {w : World} (hx : xs.length = n) (hn : n ≤ 1000) (ha : ∀ i, i < xs.length → w.cell? ⟨b, o + i, none⟩ = some (.int .i64 (xs.getD i 0))) :
    Calls Try.prog 44 #[.slice (some ⟨b, o, none⟩) n c] w fun e w' => ∃ v, e = .returned v ∧ Below w.heap.size w w' ∧ w'.ownsRow w.heap.size 3 1 v n (ints xs) := by
  refine (Try.slices_Clone_int b o n c xs w (by rw [hx]; exact Nat.le_refl _) (by omega) ha).mono ?_
  rintro e w3 ⟨v, rfl, own3, _, hb3⟩
  rw [show (xs.take n).map (Value.int .i64) = ints xs by rw [← hx, List.take_length]; rfl] at own3
  exact ⟨v, rfl, hb3, own3⟩
/-- The first k rows, the others empty. -/
def halfL (F : List (List Int)) (n k : Nat) : List (List Int) := F.take k ++ List.replicate (n - k) []
theorem half_len {F : List (List Int)} {n k : Nat} (hn : F.length = n) (hk : k ≤ n) : (halfL F n k).length = n := by simp [halfL, hn]; omega
theorem half_set {F : List (List Int)} {n k : Nat} (hn : F.length = n) (hk : k < n) : (halfL F n k).set k (F.getD k []) = halfL F n (k + 1) := by
  unfold halfL
  obtain ⟨m, hm⟩ : ∃ m, n - k = m + 1 := ⟨n - k - 1, by omega⟩
  have hl : (F.take k).length = k := by simp; omega
  rw [hm, List.replicate_succ, List.set_append_right _ _ (by omega), hl, Nat.sub_self, List.set_cons_zero, List.take_succ_eq_append_getElem (by omega), show n - (k + 1) = m by omega, Pf.getD_lt _ _ (show k < F.length by omega), List.append_assoc]
  rfl
theorem half_all {F : List (List Int)} {n : Nat} (hn : F.length = n) : halfL F n n = F := by simp [halfL, ← hn]
theorem LL.made (w : World) (n : Nat) (hn : n ≤ 1048576) (T : Nat) : LL (w.alloc (.cells (madeCells #[.slice none 0 0] n) T)) w.heap.size T 3 1 ints (.slice (some ⟨w.heap.size, 0, none⟩) n n) (List.replicate n nilS) (List.replicate n []) := by
  have h := World.ownsRow_lit (base := w.heap.size) (e := T) (size := 1) w (madeCells #[.slice none 0 0] n) n (Nat.le_refl _) (by unfold maxLen; omega) (by simp [madeCells])
  rw [toList_madeCells_one] at h
  have hu : ∀ i, (List.replicate n nilS).getD i nilS = nilS := fun i => by by_cases hi : i < n <;> simp [hi]
  have hr : ∀ i, (List.replicate n ([] : List Int)).getD i [] = [] := fun i => by by_cases hi : i < n <;> simp [hi]
  refine ⟨by rw [List.length_replicate]; exact h, fun i _ => by rw [hu, hr]; exact World.ownsRow_nil _ _ _ _, fun i g _ he => by rw [hu] at he; simp [nilS, Value.ownBlock] at he, fun i j g _ _ _ he => by rw [hu] at he; simp [nilS, Value.ownBlock] at he⟩
set_option maxRecDepth 100000 in
set_option maxHeartbeats 8000000 in
theorem pu_any {af : Option Addr} {b o n c m d : Nat} {F : List (List Int)} {P : List Int} {y : Int} {w : World} (HK : Hid (Pok n m F y P)) (hd : m ≤ d) (H : Hid (CRow w af F)) (HP : Hid (ARow w (some ⟨b, o, none⟩) P)) :
    Calls Try.prog 32 #[.slice af n c, .slice (some ⟨b, o, none⟩) m d, .int .i64 y] w fun e w' => ∃ v us, e = .returned v ∧ LL w' w.heap.size 24 3 1 ints v us (Nt.pushL y F P) ∧ Below w.heap.size w w' := by
  have h8 := HK.out.n8
  have hm1 := HK.out.m1
  have hm9 := HK.out.m9
  have HN := hide HK.out.len
  have HRW := hide HK.out.row
  have m1 : (1 : Int) ≤ (m : Int) := by omega
  have md : (m : Int) ≤ (d : Int) := by omega
  have hd1 : ¬ d = 1 := by omega
  have hmk := makeC_run n (by omega)
  go_enter Try.func32, Try.ntmps32
  go_wp2_with fail
  go_loopw [8, 9, 19] (fun _ _ sk wr => ∃ (k : Nat) (us : List Value), sk = .int .i64 k ∧ k ≤ n ∧ Hid (LL wr w.heap.size 24 3 1 ints (.slice (some ⟨w.heap.size, 0, none⟩) n n) us (halfL F n k)) ∧ Hid (Below w.heap.size w wr)) (fun _ _ sk _ => n - (intOf sk).toNat)
  case atStart => exact ⟨0, List.replicate n nilS, rfl, Nat.zero_le _, hide (LL.made w n (by omega) _), hide (below_new _ _)⟩
  case round =>
    obtain ⟨k, us, rfl, hk, HL, HB⟩ := hrel
    by_cases hlt : k < n
    · obtain ⟨b1, o1, ai, ci, rfl, hb, q1, Q1⟩ := (H.out.below HB.out).at (i := k) (by rw [HN.out]; exact hlt)
      rw [HRW.out k hlt] at q1
      obtain ⟨b2, o2, rfl, q2⟩ : ∃ b2 o2, ai = some ⟨b2, o2, none⟩ ∧ ∀ i, i < (F.getD k []).length → wr.cell? ⟨b2, o2 + i, none⟩ = some (.int .i64 ((F.getD k []).getD i 0)) := by
        rcases Q1 with h | ⟨b2, o2, e, _, hc⟩
        · have := HRW.out k hlt; rw [h] at this; simp at this; omega
        · exact ⟨b2, o2, e, hc⟩
      have HQ2 := hide q2
      have k0 : (0 : Int) ≤ (k : Int) := by omega
      have k1 : (k : Int) < (n : Int) := by omega
      clear Q1 q2 hmk
      go_wp2_with fail
      refine (clone13 (HRW.out k hlt) (by omega) HQ2.out).mono ?_
      rintro e w2 ⟨v2, rfl, hb2, own2⟩
      have hhl := half_len HN.out (show k ≤ n by omega)
      have L0 : LL wr w.heap.size 24 3 1 ints (.slice (some ⟨w.heap.size, 0, none⟩) (halfL F n k).length n) us (halfL F n k) := by rw [hhl]; exact HL.out
      have hG : w.heap.size < wr.heap.size := (HL.out.1.lt _ rfl).2
      have L2 := L0.put (i := k) (u' := v2) (r' := F.getD k []) (W' := w2) (by omega) (fun b hb _ => hb2.block b hb) hb2.size (by rw [HRW.out k hlt]; exact own_low2 own2 HB.out.size) (fun g e => Or.inr (own2.lt g e).1)
      rw [half_set HN.out hlt, hhl] at L2
      have c0 : w2.cell? ⟨w.heap.size, k, none⟩ = some (us.getD k nilS) := (hb2.cell (p := ⟨w.heap.size, k, none⟩) hG).trans (L0.cell (by omega))
      have f0 : w2.frozen? ⟨w.heap.size, k, none⟩ = false := (hb2.frozen (p := ⟨w.heap.size, k, none⟩) hG).trans (L0.1.frozenAt k)
      have HL2 := hide L2
      have HB2 := hide ((HB.out.trans (hb2.mono HB.out.size)).setCell (p := ⟨w.heap.size, k, none⟩) (Nat.le_refl _) v2)
      obtain ⟨a2, c2, rfl⟩ := own_form2 own2
      clear own2 hb2 L0 L2 hhl HL
      go_wp2_with fail
      go_roundw
      case rel => exact ⟨k + 1, _, by go_num, by omega, HL2, HB2⟩
      case measure => simp only [intOf]; omega
    · have hke : k = n := by omega
      subst hke
      rw [half_all HN.out] at HL
      obtain ⟨G, hG⟩ : ∃ G, G = w.heap.size := ⟨_, rfl⟩
      have HG := hide hG
      have HL0 : Hid (LL wr w.heap.size 24 3 1 ints (.slice (some ⟨G, 0, none⟩) k k) us F) := hide (by rw [hG]; exact HL.out)
      rw [← hG]
      clear hmk HL hG
      go_wp2_with fail
      go_loopw [10, 11, 12, 13, 33] (fun _ _ _ _ sk wq => ∃ (j : Nat), sk = .int .i64 j ∧ j ≤ m - 1 ∧ Hid (LL wq w.heap.size 24 3 1 ints (.slice (some ⟨G, 0, none⟩) k k) us (Nt.pushTo y F P j)) ∧ Hid (Below w.heap.size w wq)) (fun _ _ _ _ sk _ => m - 1 - (intOf sk).toNat)
      case atStart => exact ⟨0, rfl, Nat.zero_le _, HL0, HB⟩
      case round =>
        clear HL0 HB
        obtain ⟨j, rfl, hj, HL, HB⟩ := hrel
        by_cases hjm : j < m - 1
        · have l1 := HK.out.lo j (by omega)
          have l2 := HK.out.lo (j + 1) (by omega)
          have ne := HK.out.ne j (by omega)
          have r1 := arow_behind (HP.out.below HB.out) (i := j) (by rw [HK.out.pl]; omega)
          obtain ⟨b0, o0, e0, r2⟩ := (HP.out.below HB.out).at (i := j) (by rw [HK.out.pl]; omega)
          cases e0
          obtain ⟨p, ep⟩ : ∃ p : Nat, P.getD j 0 = (p : Int) := ⟨(P.getD j 0).toNat, by omega⟩
          obtain ⟨q, eq⟩ : ∃ q : Nat, P.getD (j + 1) 0 = (q : Int) := ⟨(P.getD (j + 1) 0).toNat, by omega⟩
          rw [ep] at r2 l1 ne
          rw [eq] at r1 l2 ne
          have HST : Hid (Nt.pushTo y F P (j + 1) = Nt.stL (Nt.pushTo y F P j) y p q) := hide (by rw [Nt.pushTo, ep, eq, Int.toNat_natCast, Int.toNat_natCast])
          have hbd1 := HK.out.bd j (by omega) q p (by omega) (by omega)
          have hbd2 := HK.out.bd j (by omega) p q (by omega) (by omega)
          obtain ⟨gb, cb, ga, ca, S⟩ := HL.out.step13 (y := y) (p := p) (q := q) (by rw [Nt.pushTo_len]; exact HN.out) (fun i hi => by rw [Nt.pushTo_row]; exact HRW.out i hi) (by omega) (by omega) (by omega)
          have hy0 := HK.out.y0
          have hy1 := HK.out.y1
          generalize Nt.at2 (Nt.pushTo y F P j) q p = x1 at *
          generalize Nt.at2 (Nt.pushTo y F P j) p q = x2 at *
          have HS := hide S
          obtain ⟨c1, s1, f1, c2, s2, f2, _, b1, b2, _, _⟩ := S
          have j0 : (0 : Int) ≤ (j : Int) := by omega
          have j1 : (j : Int) < ((m - 1 : Nat) : Int) := by omega
          have j2 : (j : Int) < (m : Int) := by omega
          have p0 : (0 : Int) ≤ (p : Int) := by omega
          have p1 : (p : Int) < (k : Int) := by omega
          have q0 : (0 : Int) ≤ (q : Int) := by omega
          have q1 : (q : Int) < (k : Int) := by omega
          have HB2 := hide ((HB.out.setCell (p := ⟨gb, p, none⟩) b1 (.int .i64 (x1 - min y x1))).setCell (p := ⟨ga, q, none⟩) b2 (.int .i64 (x2 + (y - min y x1))))
          have L2 := HS.out.ll
          rw [← HST.out] at L2
          have HL2 := hide L2
          have hmn : 0 ≤ min y x1 ∧ min y x1 ≤ 50 := by omega
          obtain ⟨t0, t1⟩ := hmn
          have w1 : wrap64 (x1 - min y x1) = x1 - min y x1 := wrap_id' _ (by omega) (by omega)
          have w2 : wrap64 (y - min y x1) = y - min y x1 := wrap_id' _ (by omega) (by omega)
          have w3 : wrap64 (x2 + (y - min y x1)) = x2 + (y - min y x1) := wrap_id' _ (by omega) (by omega)
          obtain ⟨x10, x11⟩ := hbd1
          obtain ⟨x20, x21⟩ := hbd2
          clear HS HST l1 l2 ne HL L2
          go_wp2_with fail
          go_roundw
          case rel => exact ⟨j + 1, by go_num, by omega, HL2, HB2⟩
          case measure => simp only [intOf]; omega
        · have hje : j = m - 1 := by omega
          subst hje
          have j3 : ¬ ((m - 1 : Nat) : Int) < ((m - 1 : Nat) : Int) := by omega
          have HL2 : Hid (LL wr w.heap.size 24 3 1 ints (.slice (some ⟨G, 0, none⟩) k k) us (Nt.pushL y F P)) := hide (by rw [Nt.pushL, HK.out.pl]; exact HL.out)
          go_wp2_with fail
          go_ret
          exact ⟨_, rfl, ⟨us, HL2.out⟩, HB.out⟩
end Go.Proofs.Ytdpjkblondoimab
namespace Go.Proofs.Ytdpjkblondoimab
namespace Nt
def okAt (n : Nat) (P : List Int) (i : Nat) : Bool := Pf.inB (P.getD i 0) 0 ((n : Int) - 1) && !(P.take i).contains (P.getD i 0)
def wayB (R : List (List Int)) (n : Nat) (P : List Int) : Bool := decide (0 < P.length) && ((P.getD 0 0 == 0) && ((P.getD (P.length - 1) 0 == (n : Int) - 1) && ((List.range P.length).all (okAt n P) && !(along R P).contains 0)))
theorem ok_lo {n : Nat} {P : List Int} {i : Nat} (h : okAt n P i = true) : 0 ≤ P.getD i 0 ∧ P.getD i 0 < (n : Int) := by
  simp only [okAt, Bool.and_eq_true] at h
  have := Pf.inB_yes h.1
  omega
theorem ok_ne {n : Nat} {P : List Int} {k : Nat} (hk : k ≤ P.length) (h : ∀ i, i < k → okAt n P i = true) : ∀ i j, i < k → j < k → i ≠ j → P.getD i 0 ≠ P.getD j 0 := by
  have key : ∀ i j, i < j → j < k → P.getD i 0 ≠ P.getD j 0 := fun i j hij hj e => by
    have h1 := h j hj
    simp only [okAt, Bool.and_eq_true, Bool.not_eq_true'] at h1
    have hm : P.getD i 0 ∈ P.take j := by
      rw [Pf.getD_lt _ _ (show i < P.length by omega)]
      exact List.mem_take_iff_getElem.2 ⟨i, by omega, rfl⟩
    rw [e] at hm
    have := List.contains_iff_mem.2 hm
    rw [h1.2] at this
    cases this
  intro i j hi hj hne
  rcases Nat.lt_or_gt_of_ne hne with hlt | hlt
  · exact key i j hlt hj
  · exact fun e => key j i hlt hi e.symm
theorem ok_few {n : Nat} {P : List Int} {k : Nat} (hk : k ≤ P.length) (h : ∀ i, i < k → okAt n P i = true) : k ≤ n := few (fun i hi => ok_lo (h i hi)) (ok_ne hk h)
theorem wayB_iff {R : List (List Int)} {n : Nat} {P : List Int} : wayB R n P = true ↔ 0 < P.length ∧ P.getD 0 0 = 0 ∧ P.getD (P.length - 1) 0 = (n : Int) - 1 ∧ (∀ i, i < P.length → okAt n P i = true) ∧ (along R P).contains 0 = false := by
  simp only [wayB, Bool.and_eq_true, decide_eq_true_eq, beq_iff_eq, List.all_eq_true, List.mem_range, Bool.not_eq_true']
theorem wayB_no {R : List (List Int)} {n : Nat} {P : List Int} (h : ¬ (0 < P.length ∧ P.getD 0 0 = 0 ∧ P.getD (P.length - 1) 0 = (n : Int) - 1 ∧ (∀ i, i < P.length → okAt n P i = true) ∧ (along R P).contains 0 = false)) : wayB R n P = false := by
  cases e : wayB R n P
  · rfl
  · exact absurd (wayB_iff.1 e) h
/-- Where no room is below 0 this is a way. -/
theorem way_of {R : List (List Int)} {n : Nat} {P : List Int} (hn : 2 ≤ n) (h : wayB R n P = true) (hr : ∀ i k, i < n → k < n → 0 ≤ at2 R i k) : Way R n P := by
  obtain ⟨h0, h1, h2, h3, h4⟩ := wayB_iff.1 h
  have lo := fun i hi => ok_lo (h3 i hi)
  have hl2 : 2 ≤ P.length := by
    by_cases e : P.length = 1
    · rw [e, h1] at h2; omega
    · omega
  refine ⟨hl2, h1, h2, lo, ok_ne (Nat.le_refl _) h3, fun i hi => ?_⟩
  have a1 := lo i (by omega)
  have a2 := lo (i + 1) hi
  have hp := hr (P.getD i 0).toNat (P.getD (i + 1) 0).toNat (by omega) (by omega)
  have hne : at2 R (P.getD i 0).toNat (P.getD (i + 1) 0).toNat ≠ 0 := fun e => by
    have hm : (0 : Int) ∈ along R P := by
      have := along_at R P hi
      rw [e] at this
      rw [← this, Pf.getD_lt _ _ (show i < (along R P).length by rw [along_len]; omega)]
      exact List.getElem_mem _
    have := List.contains_iff_mem.2 hm
    rw [h4] at this
    cases this
  omega
/-- A room of 0 on it: it is none. -/
theorem way_zero {R : List (List Int)} {n : Nat} {P : List Int} {i : Nat} (hi : i + 1 < P.length) (h : at2 R (P.getD i 0).toNat (P.getD (i + 1) 0).toNat = 0) : wayB R n P = false := by
  refine wayB_no fun ⟨_, _, _, _, h4⟩ => ?_
  have hm : (0 : Int) ∈ along R P := by
    have := along_at R P hi
    rw [h] at this
    rw [← this, Pf.getD_lt _ _ (show i < (along R P).length by rw [along_len]; omega)]
    exact List.getElem_mem _
  have := List.contains_iff_mem.2 hm
  rw [h4] at this
  cases this
end Nt
open Go.RowKit
theorem SI.new (w : World) : SI (w.alloc (.cells #[.slice none 0 0] 49)) w.heap.size (w.heap.size + 1) [] :=
  ⟨by omega, by simp, .slice none 0 0, by simp, by rw [frozen?_alloc_cells]; unfold World.frozen?; simp, World.ownsRow_nil _ _ _ _⟩
set_option maxRecDepth 100000 in
set_option maxHeartbeats 4000000 in
theorem isw_any {a : Option Addr} {b o n c m d : Nat} {R : List (List Int)} {P : List Int} {w : World} (HN : Hid (R.length = n)) (h2 : 2 ≤ n) (h8 : n ≤ 8) (HRW : Hid (∀ i, i < n → (R.getD i []).length = n)) (H : Hid (CRow w a R)) (HM : Hid (P.length = m)) (hm : m ≤ 1048576) (hd : m ≤ d) (HP : Hid (ARow w (some ⟨b, o, none⟩) P)) :
    Calls Try.prog 29 #[.slice a n c, .slice (some ⟨b, o, none⟩) m d] w fun e w' => e = .returned (.bool (Nt.wayB R n P)) ∧ Below w.heap.size w w' := by
  by_cases hm0 : m = 0
  · subst hm0
    have H1 : Hid (Nt.wayB R n P = false) := hide (Nt.wayB_no fun h => by have := h.1; rw [HM.out] at this; omega)
    generalize Nt.wayB R n P = G at *
    go_enter Try.func29, Try.ntmps29
    go_wp2_with fail
    go_ret
    exact ⟨ret_bool H1.out.symm, Below.refl _ _⟩
  · obtain ⟨b0, o0, e0, r0⟩ := HP.out.at (i := 0) (by rw [HM.out]; omega)
    cases e0
    rw [Nat.add_zero] at r0
    obtain ⟨b0, o0, e0, r1⟩ := HP.out.at (i := m - 1) (by rw [HM.out]; omega)
    cases e0
    have m0 : ((m : Int) == (0 : Int)) = false := by simp; omega
    have m1 : (0 : Int) < (m : Int) := by omega
    have m2 : (0 : Int) ≤ (m : Int) - 1 := by omega
    have m3 : (m : Int) - 1 < (m : Int) := by omega
    have mt : ((m : Int) - 1).toNat = m - 1 := by omega
    have r1' : w.cell? ⟨b, o + ((m : Int) - 1).toNat, none⟩ = some (.int .i64 (P.getD (m - 1) 0)) := by rw [mt]; exact r1
    by_cases hf : P.getD 0 0 = 0
    · rw [hf] at r0
      by_cases hl : P.getD (m - 1) 0 = (n : Int) - 1
      · rw [hl] at r1 r1'
        have hm2 : 2 ≤ m := by
          by_cases e : m = 1
          · subst e; rw [show 1 - 1 = 0 from rfl, hf] at hl; omega
          · omega
        have HNO : Hid (∀ i, i < m → Nt.okAt n P i = false → Nt.wayB R n P = false) := hide fun i hi h => Nt.wayB_no fun ⟨_, _, _, h3, _⟩ => by
          have := h3 i (by rw [HM.out]; exact hi)
          rw [h] at this; cases this
        have HYE : Hid ((∀ i, i < m → Nt.okAt n P i = true) → Nt.wayB R n P = !(Nt.along R P).contains 0) := hide fun h => by
          have e1 : (List.range P.length).all (Nt.okAt n P) = true := List.all_eq_true.2 fun i hi => h i (by rw [← HM.out]; simpa using hi)
          unfold Nt.wayB
          rw [e1, HM.out, hf, hl]
          simp [show 0 < m by omega]
        have HFE : Hid (∀ k, k ≤ m → (∀ i, i < k → Nt.okAt n P i = true) → k ≤ n) := hide fun k hk h => Nt.ok_few (by rw [HM.out]; exact hk) h
        have HLO : Hid (∀ i, Nt.okAt n P i = true → 0 ≤ P.getD i 0 ∧ P.getD i 0 < (n : Int)) := hide fun i h => Nt.ok_lo h
        generalize Nt.wayB R n P = G at *
        have hnl : ((n : Int) - 1 != (n : Int) - 1) = false := by simp
        have HSI := hide (SI.new w)
        have HB0 := hide (below_new w (.cells #[.slice none 0 0] 49))
        clear hf hl
        go_enter Try.func29, Try.ntmps29
        go_wp2_with fail
        obtain ⟨Q, hQ⟩ : ∃ Q, Q = w.heap.size := ⟨_, rfl⟩
        rw [← hQ]
        have HSI' : Hid (SI (w.alloc (.cells #[.slice none 0 0] 49)) Q (Q + 1) (P.take 0)) := hide (by rw [hQ]; exact HSI.out)
        have HQ := hide hQ
        clear HSI hQ r1 r1' r0
        go_loopw [4, 8, 33] (fun s4 _ sk wr => ∃ (k : Nat), s4 = .bool false ∧ sk = .int .i64 k ∧ k ≤ m ∧ Hid (∀ i, i < k → Nt.okAt n P i = true) ∧ Hid (SI wr Q (Q + 1) (P.take k)) ∧ Hid (Below w.heap.size w wr)) (fun _ _ sk _ => m - (intOf sk).toNat)
        case atStart => exact ⟨0, rfl, rfl, Nat.zero_le _, hide fun i hi => absurd hi (Nat.not_lt_zero _), HSI', HB0⟩
        case round =>
          clear HSI' HB0
          obtain ⟨k, rfl, rfl, hk, HK, HSI, HB⟩ := hrel
          by_cases hlt : k < m
          · obtain ⟨b1, o1, e1, r2⟩ := (HP.out.below HB.out).at (i := k) (by rw [HM.out]; exact hlt)
            cases e1
            have k0 : (0 : Int) ≤ (k : Int) := by omega
            have k1 : (k : Int) < (m : Int) := by omega
            have hkn := HFE.out k hk HK.out
            have HOK : Hid (Nt.okAt n P k = (Pf.inB (P.getD k 0) 0 ((n : Int) - 1) && !(P.take k).contains (P.getD k 0))) := hide rfl
            have HNK := hide (HNO.out k hlt)
            have HKK : Hid (Nt.okAt n P k = true → ∀ i, i < k + 1 → Nt.okAt n P i = true) := hide fun h i hi => by
              by_cases e : i = k
              · subst e; exact h
              · exact HK.out i (by omega)
            have HTK : Hid (P.take (k + 1) = P.take k ++ [P.getD k 0]) := hide (by rw [List.take_succ_eq_append_getElem (by rw [HM.out]; exact hlt), Pf.getD_lt _ _ (by rw [HM.out]; exact hlt)])
            have htl : (P.take k).length ≤ 1000 := by rw [List.length_take]; omega
            generalize Nt.okAt n P k = K at *
            generalize P.getD k 0 = x at *
            cases hx : Pf.inB x 0 ((n : Int) - 1)
            · have H1 := hide (HNK.out (by rw [HOK.out, hx]; rfl))
              go_wp2_with fail
              refine (between_eq hx).mono ?_
              rintro e w1 ⟨rfl, hw1⟩
              obtain rfl : wr = w1 := hw1.symm
              go_wp2_with fail
              go_ret
              exact ⟨ret_bool H1.out.symm, HB.out⟩
            · cases hc : (P.take k).contains x
              · have H1 := hide (HKK.out (by rw [HOK.out, hx, hc]; rfl))
                have HAD := hide (add_any (x := x) HSI.out htl)
                rw [hc] at HAD
                have HTK2 : Hid ((if false = true then P.take k else P.take k ++ [x]) = P.take (k + 1)) := hide (by rw [HTK.out]; rfl)
                rw [HTK2.out] at HAD
                clear HOK HNK HKK HTK HTK2 hc
                go_wp2_with fail
                refine (between_eq hx).mono ?_
                rintro e w1 ⟨rfl, hw1⟩
                obtain rfl : wr = w1 := hw1.symm
                go_wp2_with fail
                refine HAD.out.mono ?_
                rintro e w2 ⟨rfl, si2, hb2⟩
                have HSI2 := hide si2
                have HB2 := hide (HB.out.trans (by rw [← HQ.out]; exact hb2))
                clear si2 hb2 HB HSI HAD
                go_wp2_with fail
                go_roundw
                case rel => exact ⟨k + 1, rfl, by go_num, by omega, H1, HSI2, HB2⟩
                case measure => simp only [intOf]; omega
              · have H1 := hide (HNK.out (by rw [HOK.out, hx, hc]; rfl))
                have HAD := hide (add_any (x := x) HSI.out htl)
                rw [hc] at HAD
                clear HOK HNK HKK HTK hc
                go_wp2_with fail
                refine (between_eq hx).mono ?_
                rintro e w1 ⟨rfl, hw1⟩
                obtain rfl : wr = w1 := hw1.symm
                go_wp2_with fail
                refine HAD.out.mono ?_
                rintro e w2 ⟨rfl, si2, hb2⟩
                have HB2 := hide (HB.out.trans (by rw [← HQ.out]; exact hb2))
                clear si2 hb2 HB HSI HAD
                go_wp2_with fail
                go_ret
                exact ⟨ret_bool H1.out.symm, HB2.out⟩
          · have hke : k = m := by omega
            subst hke
            have H1 := hide (HYE.out HK.out)
            have hkn := HFE.out k hk HK.out
            have HLO2 : Hid (∀ i, i < k → 0 ≤ P.getD i 0 ∧ P.getD i 0 < (n : Int)) := hide fun i hi => HLO.out i (HK.out i hi)
            clear HSI HK
            go_wp2_with fail
            refine (ra13 HN HRW (hide (H.out.below HB.out)) HM hm2 (by omega) hd (hide (HP.out.below HB.out)) HLO2).mono ?_
            rintro e w3 ⟨v3, rfl, own3, hb3⟩
            obtain ⟨g3, c3, rfl, _, _⟩ := own3.form (by omega)
            have HA3 : Hid (ARow w3 (some ⟨g3, 0, none⟩) (Nt.along R P)) := hide (arow_owns (by rw [Nt.along_len, HM.out]) own3)
            have HAL : Hid ((Nt.along R P).length = k - 1) := hide (by rw [Nt.along_len, HM.out])
            have HB3 := hide (HB.out.trans (hb3.mono HB.out.size))
            have HCE : Hid ((Nt.along R P).contains 0 = (Nt.along R P).contains 0) := hide rfl
            have HCO := hide (con_eq (c := c3) HAL (by omega) HA3 HCE)
            generalize (Nt.along R P).contains 0 = Z at H1 HCO
            clear own3 hb3 HB HCE
            go_wp2_with fail
            refine HCO.out.mono ?_
            rintro e w4 ⟨rfl, hw4⟩
            obtain rfl : w3 = w4 := hw4.symm
            go_wp2_with fail
            go_ret
            exact ⟨ret_bool H1.out.symm, HB3.out⟩
      · have H1 : Hid (Nt.wayB R n P = false) := hide (Nt.wayB_no fun ⟨_, _, h, _⟩ => by rw [HM.out] at h; exact hl h)
        have hx : (P.getD (m - 1) 0 != (n : Int) - 1) = true := by simpa using hl
        generalize Nt.wayB R n P = G at *
        generalize P.getD (m - 1) 0 = x at *
        clear hf hl
        go_enter Try.func29, Try.ntmps29
        go_wp2_with fail
        go_ret
        exact ⟨ret_bool H1.out.symm, Below.refl _ _⟩
    · have H1 : Hid (Nt.wayB R n P = false) := hide (Nt.wayB_no fun ⟨_, h, _⟩ => hf h)
      have hx : (P.getD 0 0 != (0 : Int)) = true := by simpa using hf
      generalize Nt.wayB R n P = G at *
      generalize P.getD 0 0 = x at *
      clear hf
      go_enter Try.func29, Try.ntmps29
      go_wp2_with fail
      go_ret
      exact ⟨ret_bool H1.out.symm, Below.refl _ _⟩
end Go.Proofs.Ytdpjkblondoimab
namespace Go.Proofs.Ytdpjkblondoimab
namespace Nt
theorem with_no {W F : List (List Int)} {i k : Nat} (hi : i < W.length) (hk : k < W.length) (h : at2 W i k < at2 F i k) : withB W F = false := by
  cases e : withB W F
  · rfl
  · have := withB_iff.1 e i k hi hk; omega
theorem pass_no {F : List (List Int)} {i : Nat} (h0 : 0 < i) (hi : i + 1 < F.length) (h : outI F i ≠ 0) : passB F = false := by
  cases e : passB F
  · rfl
  · exact absurd (passB_iff.1 e i h0 hi) h
/-- The arguments are as said. -/
def askB (W F : List (List Int)) : Bool := netB W && (rowsB F && decide (F.length = W.length))
theorem nf_eq (W F : List (List Int)) : nfB W F = (askB W F && (withB W F && passB F)) := by
  unfold nfB flowB askB
  cases netB W <;> simp
theorem flow_eq {W F : List (List Int)} (h : netB W = true) : nfB W F = flowB W F := by unfold nfB; rw [h]; rfl
end Nt
open Go.RowKit
open Bx (sumTo)
set_option maxHeartbeats 2000000 in
theorem iwi_any {aw af : Option Addr} {n c d : Nat} {W F : List (List Int)} {w : World} (HN : Hid (W.length = n)) (HM : Hid (F.length = n)) (HR : Hid (Nt.rowsB W = true)) (HS : Hid (Nt.rowsB F = true)) (HW : Hid (CRow w aw W)) (HA : Hid (CRow w af F)) :
    Calls Try.prog 37 #[.slice aw n c, .slice af n d] w fun e w' => e = .returned (.bool (Nt.withB W F)) ∧ w' = w := by
  have HNO : Hid (∀ i k, i < W.length → k < W.length → Nt.at2 W i k < Nt.at2 F i k → Nt.withB W F = false) := hide fun i k hi hk h => Nt.with_no hi hk h
  have HYE := hide (@Nt.withB_iff W F).2
  rw [HN.out] at HNO HYE
  generalize Nt.withB W F = G at *
  have h8 := Nt.rowsB_len HR.out
  rw [HN.out] at h8
  obtain ⟨h2, h8⟩ := h8
  go_enter Try.func37, Try.ntmps37
  go_wp2_with fail
  go_loop [4, 5, 6, 7, 8, 11] (fun s4 _ _ _ _ sk => ∃ (i : Nat), s4 = .bool false ∧ sk = .int .i64 i ∧ i ≤ n ∧ Hid (∀ a k, a < i → k < n → Nt.at2 F a k ≤ Nt.at2 W a k)) (fun _ _ _ _ _ sk => n - (intOf sk).toNat)
  case atStart => exact ⟨0, rfl, rfl, Nat.zero_le _, hide fun a k ha => absurd ha (Nat.not_lt_zero _)⟩
  case round =>
    obtain ⟨i, rfl, rfl, hi, HK⟩ := hrel
    by_cases hlt : i < n
    · obtain ⟨b, off, ai, ci, rfl, hb, r1, R1⟩ := HW.out.at (i := i) (by rw [HN.out]; exact hlt)
      have hrl := Nt.rowsB_row HR.out (i := i) (by rw [HN.out]; exact hlt)
      rw [hrl, HN.out] at r1
      have HR1 := hide R1
      have HRL : Hid ((W.getD i []).length = n) := hide (hrl.trans HN.out)
      have i0 : (0 : Int) ≤ (i : Int) := by omega
      have i1 : (i : Int) < (n : Int) := by omega
      clear R1 hrl
      go_wp2_with fail
      go_loop [4, 7, 8, 18] (fun s4 _ _ sk => ∃ (k : Nat), s4 = .bool false ∧ sk = .int .i64 k ∧ k ≤ n ∧ Hid (∀ j, j < k → Nt.at2 F i j ≤ Nt.at2 W i j)) (fun _ _ _ sk => n - (intOf sk).toNat)
      case atStart => exact ⟨0, rfl, rfl, Nat.zero_le _, hide fun a ha => absurd ha (Nat.not_lt_zero _)⟩
      case round =>
        obtain ⟨k, rfl, rfl, hk, HJ⟩ := hrel
        by_cases hkn : k < n
        · obtain ⟨b1, o1, rfl, r2⟩ := HR1.out.at (i := k) (by rw [HRL.out]; exact hkn)
          have r3 : w.cell? ⟨b1, o1 + k, none⟩ = some (.int .i64 (Nt.at2 W i k)) := r2
          obtain ⟨b2, o2, b3, o3, c3, rfl, r4, r5⟩ := crow_at2 HA.out HM.out HS.out hlt hkn
          have k0 : (0 : Int) ≤ (k : Int) := by omega
          have k1 : (k : Int) < (n : Int) := by omega
          have HNK := hide (fun h => HNO.out i k hlt hkn h)
          have HYK : Hid (Nt.at2 F i k ≤ Nt.at2 W i k → ∀ j, j < k + 1 → Nt.at2 F i j ≤ Nt.at2 W i j) := hide fun h j hj => by
            by_cases e : j = k
            · subst e; exact h
            · exact HJ.out j (by omega)
          generalize Nt.at2 W i k = x at *
          generalize Nt.at2 F i k = y at *
          clear r2
          by_cases hxy : x < y
          · have H1 := hide (HNK.out hxy)
            go_wp2_with fail
            go_ret
            exact ⟨ret_bool H1.out.symm, rfl⟩
          · have H1 := hide (HYK.out (by omega))
            go_wp2_with fail
            go_round
            case rel => exact ⟨k + 1, rfl, by go_num, by omega, H1⟩
            case measure => simp only [intOf]; omega
        · have hke : k = n := by omega
          subst hke
          have H1 : Hid (∀ a j, a < i + 1 → j < k → Nt.at2 F a j ≤ Nt.at2 W a j) := hide fun a j ha hj => by
            by_cases e : a = i
            · subst e; exact HJ.out j hj
            · exact HK.out a j (by omega) hj
          go_wp2_with fail
          go_round
          case rel => exact ⟨i + 1, rfl, by go_num, by omega, H1⟩
          case measure => simp only [intOf]; omega
    · have hke : i = n := by omega
      subst hke
      have H1 := hide (HYE.out HK.out)
      go_wp2_with fail
      go_ret
      exact ⟨ret_bool H1.out.symm, rfl⟩
set_option maxHeartbeats 2000000 in
theorem pon_any {af : Option Addr} {n d : Nat} {F : List (List Int)} {w : World} (HM : Hid (F.length = n)) (HS : Hid (Nt.rowsB F = true)) (HA : Hid (CRow w af F)) :
    Calls Try.prog 38 #[.slice af n d] w fun e w' => e = .returned (.bool (Nt.passB F)) ∧ w' = w := by
  have HNO : Hid (∀ i, 0 < i → i + 1 < F.length → Nt.outI F i ≠ 0 → Nt.passB F = false) := hide fun i h0 hi h => Nt.pass_no h0 hi h
  have HYE := hide (@Nt.passB_iff F).2
  rw [HM.out] at HNO HYE
  generalize Nt.passB F = G at *
  have h8 := Nt.rowsB_len HS.out
  rw [HM.out] at h8
  obtain ⟨h2, h8⟩ := h8
  go_enter Try.func38, Try.ntmps38
  go_wp2_with fail
  go_loop [2, 3] (fun s2 s3 => ∃ (i : Nat), s2 = .bool false ∧ s3 = .int .i64 (i : Int) ∧ 1 ≤ i ∧ i ≤ n ∧ Hid (∀ a, 0 < a → a < i → a + 1 < n → Nt.outI F a = 0)) (fun _ s3 => n - (intOf s3).toNat)
  case atStart => exact ⟨1, rfl, rfl, Nat.le_refl _, by omega, hide fun a h0 h1 => by omega⟩
  case round =>
    obtain ⟨i, rfl, rfl, hi1, hi, HK⟩ := hrel
    by_cases hlt : i + 1 < n
    · have HO := hide (oli_any (c := d) (h := i) HM (by omega) HS HA)
      have HNI := hide (fun h => HNO.out i (by omega) hlt h)
      have HYI : Hid (Nt.outI F i = 0 → ∀ a, 0 < a → a < i + 1 → a + 1 < n → Nt.outI F a = 0) := hide fun h a h0 h1 h2 => by
        by_cases e : a = i
        · subst e; exact h
        · exact HK.out a h0 (by omega) h2
      generalize Nt.outI F i = x at *
      have j1 : (i : Int) < (n : Int) - 1 := by omega
      by_cases hx : x = 0
      · subst hx
        have H1 := hide (HYI.out rfl)
        go_wp2_with fail
        refine HO.out.mono ?_
        rintro e w1 ⟨rfl, hw1⟩
        obtain rfl : w = w1 := hw1.symm
        go_wp2_with fail
        go_round
        case rel => exact ⟨i + 1, rfl, by go_num, by omega, by omega, H1⟩
        case measure => simp only [intOf]; omega
      · have H1 := hide (HNI.out hx)
        have hx' : (x != (0 : Int)) = true := by simpa using hx
        clear hx
        go_wp2_with fail
        refine HO.out.mono ?_
        rintro e w1 ⟨rfl, hw1⟩
        obtain rfl : w = w1 := hw1.symm
        go_wp2_with fail
        go_ret
        exact ⟨ret_bool H1.out.symm, rfl⟩
    · have j1 : ¬ (i : Int) < (n : Int) - 1 := by omega
      have H1 := hide (HYE.out fun a h0 h1 => HK.out a h0 (by omega) h1)
      go_wp2_with fail
      go_ret
      exact ⟨ret_bool H1.out.symm, rfl⟩
set_option maxHeartbeats 2000000 in
theorem isf_w {aw af : Option Addr} {n m c d : Nat} {W F : List (List Int)} {w : World} (HN : Hid (W.length = n)) (HM : Hid (F.length = m)) (HW : Hid (CRow w aw W)) (HA : Hid (CRow w af F)) :
    Calls Try.prog 22 #[.slice aw n c, .slice af m d] w fun e w' => e = .returned (.tuple #[.bool (Nt.nfB W F), .bool (Nt.askB W F)]) ∧ w' = w := by
  have hE := Nt.nf_eq W F
  cases hg : Nt.netB W
  · have HG := hide hg
    have e1 : Nt.askB W F = false := by simp [Nt.askB, hg]
    rw [e1] at hE
    rw [e1, hE]
    clear hg e1 hE
    go_enter Try.func22, Try.ntmps22
    go_wp2_with fail
    refine (gn_eq HN HW HG).mono ?_
    rintro e w1 ⟨rfl, hw1⟩
    obtain rfl : w = w1 := hw1.symm
    go_wp2_with fail
    go_ret2
    exact ⟨rfl, rfl⟩
  · have HG := hide hg
    cases hs : Nt.rowsB F
    · have HS := hide hs
      have e1 : Nt.askB W F = false := by simp [Nt.askB, hs]
      rw [e1] at hE
      rw [e1, hE]
      clear hg hs e1 hE
      go_enter Try.func22, Try.ntmps22
      go_wp2_with fail
      refine (gn_eq HN HW HG).mono ?_
      rintro e w1 ⟨rfl, hw1⟩
      obtain rfl : w = w1 := hw1.symm
      go_wp2_with fail
      refine (ahr_eq HM HA HS).mono ?_
      rintro e w1 ⟨rfl, hw1⟩
      obtain rfl : w = w1 := hw1.symm
      go_wp2_with fail
      go_ret2
      exact ⟨rfl, rfl⟩
    · have HS := hide hs
      by_cases hmn : m = n
      · subst hmn
        have e1 : Nt.askB W F = true := by simp [Nt.askB, hg, hs, HN.out, HM.out]
        rw [e1] at hE
        rw [e1, hE]
        have HWI := hide (iwi_any (c := c) (d := d) HN HM (hide (Nt.netB_rows hg)) HS HW HA)
        have HPO := hide (pon_any (d := d) HM HS HA)
        have hne : ((m : Int) != (m : Int)) = false := by simp
        clear hg hs e1 hE
        cases hwi : Nt.withB W F
        · rw [hwi] at HWI
          clear hwi
          go_enter Try.func22, Try.ntmps22
          go_wp2_with fail
          refine (gn_eq HN HW HG).mono ?_
          rintro e w1 ⟨rfl, hw1⟩
          obtain rfl : w = w1 := hw1.symm
          go_wp2_with fail
          refine (ahr_eq HM HA HS).mono ?_
          rintro e w1 ⟨rfl, hw1⟩
          obtain rfl : w = w1 := hw1.symm
          go_wp2_with fail
          refine HWI.out.mono ?_
          rintro e w1 ⟨rfl, hw1⟩
          obtain rfl : w = w1 := hw1.symm
          go_wp2_with fail
          go_ret2
          exact ⟨rfl, rfl⟩
        · rw [hwi] at HWI
          clear hwi
          generalize Nt.passB F = G at *
          go_enter Try.func22, Try.ntmps22
          go_wp2_with fail
          refine (gn_eq HN HW HG).mono ?_
          rintro e w1 ⟨rfl, hw1⟩
          obtain rfl : w = w1 := hw1.symm
          go_wp2_with fail
          refine (ahr_eq HM HA HS).mono ?_
          rintro e w1 ⟨rfl, hw1⟩
          obtain rfl : w = w1 := hw1.symm
          go_wp2_with fail
          refine HWI.out.mono ?_
          rintro e w1 ⟨rfl, hw1⟩
          obtain rfl : w = w1 := hw1.symm
          go_wp2_with fail
          refine HPO.out.mono ?_
          rintro e w1 ⟨rfl, hw1⟩
          obtain rfl : w = w1 := hw1.symm
          go_wp2_with fail
          go_ret2
          exact ⟨rfl, rfl⟩
      · have e1 : Nt.askB W F = false := by simp [Nt.askB, HN.out, HM.out, hmn]
        rw [e1] at hE
        rw [e1, hE]
        have hne : ((m : Int) != (n : Int)) = true := by simp; omega
        clear hg hs e1 hE
        go_enter Try.func22, Try.ntmps22
        go_wp2_with fail
        refine (gn_eq HN HW HG).mono ?_
        rintro e w1 ⟨rfl, hw1⟩
        obtain rfl : w = w1 := hw1.symm
        go_wp2_with fail
        refine (ahr_eq HM HA HS).mono ?_
        rintro e w1 ⟨rfl, hw1⟩
        obtain rfl : w = w1 := hw1.symm
        go_wp2_with fail
        go_ret2
        exact ⟨rfl, rfl⟩
set_option maxHeartbeats 4000000 in
theorem slf_yes {aw af : Option Addr} {n c d : Nat} {W F : List (List Int)} {w : World} (HN : Hid (W.length = n)) (HM : Hid (F.length = n)) (HR : Hid (Nt.rowsB W = true)) (HS : Hid (Nt.rowsB F = true)) (HW : Hid (CRow w aw W)) (HA : Hid (CRow w af F)) :
    Calls Try.prog 20 #[.slice aw n c, .slice af n d] w fun e w' => e = .returned (.bool (Nt.withB W F && Nt.passB F)) ∧ Below w.heap.size w w' := by
  have HNO : Hid (∀ {i k : Nat}, i < n → k < n → Nt.at2 W i k < Nt.at2 F i k → (Nt.withB W F && Nt.passB F) = false) := hide fun hi hk h => by rw [Nt.with_no (by rw [HN.out]; exact hi) (by rw [HN.out]; exact hk) h]; rfl
  have HNP : Hid (∀ {i : Nat}, 0 < i → i + 1 < n → Nt.outI F i ≠ 0 → (Nt.withB W F && Nt.passB F) = false) := hide fun h0 hi h => by rw [Nt.pass_no h0 (by rw [HM.out]; exact hi) h, Bool.and_false]
  have HYE : Hid ((∀ a k, a < n → k < n → Nt.at2 F a k ≤ Nt.at2 W a k) → (∀ a, 0 < a → a + 1 < n → Nt.outI F a = 0) → (Nt.withB W F && Nt.passB F) = true) := hide fun h1 h2 => by
    rw [(Nt.withB_iff (W := W) (F := F)).2 (by rw [HN.out]; exact h1), (Nt.passB_iff (F := F)).2 (by rw [HM.out]; exact h2)]; rfl
  generalize (Nt.withB W F && Nt.passB F) = G at *
  have h8 := Nt.rowsB_len HR.out
  rw [HN.out] at h8
  obtain ⟨h2, h8⟩ := h8
  have hnl : n ≤ 1048576 := by omega
  have hne : ((n : Int) != (n : Int)) = false := by simp
  go_enter Try.func20, Try.ntmps20
  go_wp2_with fail
  refine (slr_eq HM hnl HA HS).mono ?_
  rintro e w1 ⟨rfl, hw1⟩
  obtain rfl : w = w1 := hw1.symm
  go_wp2_with fail
  go_loopw [4, 5, 6, 7, 20] (fun s4 _ _ _ sk wr => ∃ (i : Nat), s4 = .bool false ∧ sk = .int .i64 i ∧ i ≤ n ∧ Hid (∀ a k, a < i → k < n → Nt.at2 F a k ≤ Nt.at2 W a k) ∧ Hid (∀ a, 0 < a → a < i → a + 1 < n → Nt.outI F a = 0) ∧ Hid (Below w.heap.size w wr)) (fun _ _ _ _ sk _ => n - (intOf sk).toNat)
  case atStart => exact ⟨0, rfl, rfl, Nat.zero_le _, hide fun a k ha => absurd ha (Nat.not_lt_zero _), hide fun a _ ha => absurd ha (Nat.not_lt_zero _), hide (Below.refl _ _)⟩
  case round =>
    obtain ⟨i, rfl, rfl, hi, HK, HP, HB⟩ := hrel
    by_cases hlt : i < n
    · have i0 : (0 : Int) ≤ (i : Int) := by omega
      have i1 : (i : Int) < (n : Int) := by omega
      go_wp2_with fail
      go_loopw [4, 6, 7, 25] (fun s4 s6 _ sk wq => ∃ (k : Nat) (x : Int), s4 = .bool false ∧ s6 = .int .i64 x ∧ sk = .int .i64 k ∧ k ≤ n ∧ Hid (∀ j, j < k → Nt.at2 F i j ≤ Nt.at2 W i j) ∧ Hid (x = sumTo (fun k => Nt.at2 F i k - Nt.at2 F k i) k) ∧ Hid (Below w.heap.size w wq)) (fun _ _ _ sk _ => n - (intOf sk).toNat)
      case atStart => exact ⟨0, 0, rfl, rfl, rfl, Nat.zero_le _, hide fun a ha => absurd ha (Nat.not_lt_zero _), hide rfl, HB⟩
      case round =>
        clear HB
        obtain ⟨k, x, rfl, rfl, rfl, hk, HJ, HX, HB⟩ := hrel
        by_cases hkn : k < n
        · obtain ⟨b1, o1, b2, o2, c2, rfl, r1, r2⟩ := crow_at2 (HW.out.below HB.out) HN.out HR.out hlt hkn
          obtain ⟨b3, o3, b4, o4, c4, rfl, r3, r4⟩ := crow_at2 (HA.out.below HB.out) HM.out HS.out hlt hkn
          obtain ⟨b5, o5, b6, o6, c6, e5, r5, r6⟩ := crow_at2 (HA.out.below HB.out) HM.out HS.out hkn hlt
          cases e5
          have k0 : (0 : Int) ≤ (k : Int) := by omega
          have k1 : (k : Int) < (n : Int) := by omega
          have hb1 := Nt.rowsB_bd HS.out (i := i) (k := k) (by rw [HM.out]; exact hlt) (by rw [HM.out]; exact hkn)
          have hb2 := Nt.rowsB_bd HS.out (i := k) (k := i) (by rw [HM.out]; exact hkn) (by rw [HM.out]; exact hlt)
          have hs := Nt.sumTo_bd (f := fun k => Nt.at2 F i k - Nt.at2 F k i) (lo := -50) (hi := 50) k fun j hj => by
            have h1 := Nt.rowsB_bd HS.out (i := i) (k := j) (by rw [HM.out]; exact hlt) (by rw [HM.out]; omega)
            have h2 := Nt.rowsB_bd HS.out (i := j) (k := i) (by rw [HM.out]; omega) (by rw [HM.out]; exact hlt)
            show -50 ≤ Nt.at2 F i j - Nt.at2 F j i ∧ Nt.at2 F i j - Nt.at2 F j i ≤ 50
            omega
          rw [← HX.out] at hs
          have HX1 : Hid (x + (Nt.at2 F i k - Nt.at2 F k i) = sumTo (fun k => Nt.at2 F i k - Nt.at2 F k i) (k + 1)) := hide (by rw [HX.out]; rfl)
          have HNK := hide (fun h => HNO.out hlt hkn h)
          have HYK : Hid (Nt.at2 F i k ≤ Nt.at2 W i k → ∀ j, j < k + 1 → Nt.at2 F i j ≤ Nt.at2 W i j) := hide fun h j hj => by
            by_cases e : j = k
            · subst e; exact h
            · exact HJ.out j (by omega)
          generalize Nt.at2 W i k = y at *
          generalize Nt.at2 F i k = z at *
          generalize Nt.at2 F k i = u at *
          have x0 : -1000 ≤ x := by omega
          have x1 : x ≤ 1000 := by omega
          obtain ⟨z0, z1⟩ := hb1
          obtain ⟨u0, u1⟩ := hb2
          clear hs HX
          by_cases hyz : y < z
          · have H1 := hide (HNK.out hyz)
            go_wp2_with fail
            go_quiet (fail)
            go_wp2_with fail
            go_ret
            exact ⟨ret_bool H1.out.symm, below_drewN HB.out _⟩
          · have H1 := hide (HYK.out (by omega))
            go_wp2_with fail
            go_quiet (fail)
            go_wp2_with fail
            go_quiet (fail)
            go_wp2_with fail
            go_roundw
            case rel => exact ⟨k + 1, x + (z - u), rfl, by go_num, by go_num, by omega, H1, HX1, hide (below_drewN HB.out _)⟩
            case measure => simp only [intOf]; omega
        · have hke : k = n := by omega
          subst hke
          have HO : Hid (x = Nt.outI F i) := hide (by rw [HX.out, Nt.outI, Fl.ex, HM.out])
          have HK2 : Hid (∀ a j, a < i + 1 → j < k → Nt.at2 F a j ≤ Nt.at2 W a j) := hide fun a j ha hj => by
            by_cases e : a = i
            · subst e; exact HJ.out j hj
            · exact HK.out a j (by omega) hj
          have HPI : Hid ((0 < i → i + 1 < k → x = 0) → ∀ a, 0 < a → a < i + 1 → a + 1 < k → Nt.outI F a = 0) := hide fun h a h0 h1 h2 => by
            by_cases e : a = i
            · subst e; rw [← HO.out]; exact h h0 h2
            · exact HP.out a h0 (by omega) h2
          have HNI : Hid (0 < i → i + 1 < k → x ≠ 0 → G = false) := hide fun h0 h1 hx => HNP.out h0 h1 (by rw [← HO.out]; exact hx)
          clear HX HJ HO
          by_cases h0 : 0 < i
          · have h0' : ¬ (i : Int) ≤ 0 := by omega
            have h0'' : (0 : Int) < (i : Int) := by omega
            by_cases h1 : i + 1 < k
            · have h1' : (i : Int) < (k : Int) - 1 := by omega
              by_cases hx : x = 0
              · have H1 := hide (HPI.out fun _ _ => hx)
                subst hx
                go_wp2_with fail
                go_roundw
                case rel => exact ⟨i + 1, rfl, by go_num, by omega, HK2, H1, HB⟩
                case measure => simp only [intOf]; omega
              · have H1 := hide (HNI.out h0 h1 hx)
                have hx' : (x != (0 : Int)) = true := by simpa using hx
                go_wp2_with fail
                go_ret
                exact ⟨ret_bool H1.out.symm, HB.out⟩
            · have h1' : ¬ (i : Int) < (k : Int) - 1 := by omega
              have H1 := hide (HPI.out fun _ h => absurd h h1)
              go_wp2_with fail
              go_roundw
              case rel => exact ⟨i + 1, rfl, by go_num, by omega, HK2, H1, HB⟩
              case measure => simp only [intOf]; omega
          · have hi0 : i = 0 := by omega
            subst hi0
            have H1 := hide (HPI.out fun h => absurd h (Nat.lt_irrefl _))
            go_wp2_with fail
            go_roundw
            case rel => exact ⟨1, rfl, by go_num, by omega, HK2, H1, HB⟩
            case measure => simp only [intOf]; omega
    · have hke : i = n := by omega
      subst hke
      have H1 := hide (HYE.out HK.out fun a h0 h1 => HP.out a h0 (by omega) h1)
      go_wp2_with fail
      go_ret
      exact ⟨ret_bool H1.out.symm, HB.out⟩
set_option maxHeartbeats 1000000 in
theorem slf_w {aw af : Option Addr} {n m c d : Nat} {W F : List (List Int)} {w : World} (HN : Hid (W.length = n)) (HM : Hid (F.length = m)) (hm : m ≤ 1048576) (HR : Hid (Nt.rowsB W = true)) (HW : Hid (CRow w aw W)) (HA : Hid (CRow w af F)) :
    Calls Try.prog 20 #[.slice aw n c, .slice af m d] w fun e w' => e = .returned (.bool (Nt.flowB W F)) ∧ Below w.heap.size w w' := by
  cases hs : Nt.rowsB F
  · have HS := hide hs
    have e1 : Nt.flowB W F = false := by simp [Nt.flowB, hs]
    rw [e1]
    clear hs e1
    go_enter Try.func20, Try.ntmps20
    go_wp2_with fail
    refine (slr_eq HM hm HA HS).mono ?_
    rintro e w1 ⟨rfl, hw1⟩
    obtain rfl : w = w1 := hw1.symm
    go_wp2_with fail
    go_ret
    exact ⟨rfl, Below.refl _ _⟩
  · have HS := hide hs
    by_cases hmn : m = n
    · subst hmn
      have e1 : Nt.flowB W F = (Nt.withB W F && Nt.passB F) := by simp [Nt.flowB, hs, HN.out, HM.out]
      rw [e1]
      exact slf_yes HN HM HR HS HW HA
    · have e1 : Nt.flowB W F = false := by simp [Nt.flowB, HN.out, HM.out, hmn]
      have hne : ((m : Int) != (n : Int)) = true := by simp; omega
      rw [e1]
      clear hs e1
      go_enter Try.func20, Try.ntmps20
      go_wp2_with fail
      refine (slr_eq HM hm HA HS).mono ?_
      rintro e w1 ⟨rfl, hw1⟩
      obtain rfl : w = w1 := hw1.symm
      go_wp2_with fail
      go_ret
      exact ⟨rfl, Below.refl _ _⟩
end Go.Proofs.Ytdpjkblondoimab
namespace Go.Proofs.Ytdpjkblondoimab
namespace Nt
/-- The least of the first so many, at most 100. -/
def b100 (r : List Int) : Nat → Int
  | 0 => 100
  | k + 1 => if r.getD k 0 < b100 r k then r.getD k 0 else b100 r k
theorem b100_eq (r : List Int) : ∀ k, 1 ≤ k → (∀ i, i < k → r.getD i 0 ≤ 100) → b100 r k = lstTo r k
  | 0, h, _ => by omega
  | 1, _, h => by
    have := h 0 (by omega)
    show (if r.getD 0 0 < 100 then r.getD 0 0 else 100) = min (r.getD 0 0) (r.getD 0 0)
    split <;> omega
  | k + 2, _, h => by
    rw [b100, b100_eq r (k + 1) (by omega) fun i hi => h i (by omega)]
    show _ = min (lstTo r (k + 1)) (r.getD (k + 1) 0)
    split <;> omega
theorem b100_bd (r : List Int) : ∀ k, (∀ i, i < k → 0 ≤ r.getD i 0) → 0 ≤ b100 r k ∧ b100 r k ≤ 100
  | 0, _ => by simp [b100]
  | k + 1, h => by
    have h1 := b100_bd r k fun i hi => h i (by omega)
    have h2 := h k (by omega)
    rw [b100]
    split <;> omega
end Nt
open Go.RowKit
/-- Nothing has turned but the rows of us. -/
def KU (us : List Value) (w w' : World) : Prop := w.heap.size ≤ w'.heap.size ∧ ∀ g, g < w.heap.size → (∀ i, (us.getD i nilS).ownBlock ≠ some g) → w'.heap[g]? = w.heap[g]?
theorem KU.refl (us : List Value) (w : World) : KU us w w := ⟨Nat.le_refl _, fun _ _ _ => rfl⟩
theorem KU.below {us : List Value} {w w1 w2 : World} (h : KU us w w1) (hb : Below w1.heap.size w1 w2) : KU us w w2 := ⟨Nat.le_trans h.1 hb.size, fun g hg hn => (hb.block g (by have := h.1; omega)).trans (h.2 g hg hn)⟩
theorem KU.set {us : List Value} {w w1 : World} {q g n c k : Nat} {v : Value} (h : KU us w w1) (hu : us.getD q nilS = .slice (some ⟨g, 0, none⟩) n c) : KU us w (w1.setCell ⟨g, k, none⟩ v) :=
  ⟨by simpa using h.1, fun b hb hn => (Below.heap_setCell w1 ⟨g, k, none⟩ v b (fun e => hn q (by rw [hu]; simp [Value.ownBlock]; exact e.symm))).trans (h.2 b hb hn)⟩
theorem KU.below0 {us : List Value} {w w' : World} {base : Nat} (h : KU us w w') (hos : w'.os = w.os ∧ w'.tape = w.tape ∧ w'.output = w.output) (hb : base ≤ w.heap.size) (hu : ∀ i g, (us.getD i nilS).ownBlock = some g → base ≤ g) : Below base w w' :=
  ⟨hos.1, hos.2.1, hos.2.2, h.1, fun g hg => h.2 g (by omega) fun i e => by have := hu i g e; omega⟩
set_option maxRecDepth 100000 in
set_option maxHeartbeats 8000000 in
theorem slp_any {aw : Option Addr} {b o n c m d G cap base : Nat} {us : List Value} {W F : List (List Int)} {P : List Int} {w : World} (HN : Hid (W.length = n)) (HF : Hid (Nt.NF W F)) (HWY : Hid (Nt.Way (Nt.rooms W F) W.length P)) (HM : Hid (P.length = m)) (HWK : Hid (∀ V, Below base w V → CRow V aw W)) (HL : Hid (LL w base 24 3 1 ints (.slice (some ⟨G, 0, none⟩) n cap) us F)) (HPK : Hid (∀ V, KU us w V → ARow V (some ⟨b, o, none⟩) P)) (hbase : base ≤ w.heap.size) :
    Calls Try.prog 28 #[.slice aw n c, .slice (some ⟨G, 0, none⟩) n cap, .slice (some ⟨b, o, none⟩) m d] w fun e w' => e = .returned (.int .i64 (Nt.byI W F P)) ∧ LL w' base 24 3 1 ints (.slice (some ⟨G, 0, none⟩) n cap) us (Nt.pushL (Nt.byI W F P) F P) ∧ Below base w w' := by
  have HK := hide (pok_of HF.out HWY.out HN.out HM.out)
  have h8 := HK.out.n8
  have hm1 := HK.out.m1
  have hm9 := HK.out.m9
  have HFL : Hid (F.length = n) := hide (HF.out.len.trans HN.out)
  have HAL : Hid (∀ i, i + 1 < m → (Nt.along (Nt.rooms W F) P).getD i 0 = Nt.roomAt W F (P.getD i 0).toNat (P.getD (i + 1) 0).toNat) := hide fun i hi => by
    rw [Nt.along_at _ _ (by rw [HM.out]; exact hi)]
    have h1 := HK.out.lo i (by omega)
    have h2 := HK.out.lo (i + 1) (by omega)
    exact Nt.rooms_at W F (by rw [HN.out]; omega) (by rw [HN.out]; omega)
  have HALB : Hid (∀ i, i + 1 < m → 0 ≤ (Nt.along (Nt.rooms W F) P).getD i 0 ∧ (Nt.along (Nt.rooms W F) P).getD i 0 ≤ 100) := hide fun i hi => by
    rw [HAL.out i hi]
    have h1 := HK.out.lo i (by omega)
    have h2 := HK.out.lo (i + 1) (by omega)
    exact HF.out.room_bd (by rw [HN.out]; omega) (by rw [HN.out]; omega)
  have HBY : Hid (Nt.b100 (Nt.along (Nt.rooms W F) P) (m - 1) = Nt.byI W F P) := hide (by
    rw [Nt.b100_eq _ _ (by omega) (fun i hi => (HALB.out i (by omega)).2), Nt.byI, Nt.lst, Nt.along_len, HM.out])
  have HB0 := hide (Nt.b100_bd (Nt.along (Nt.rooms W F) P))
  obtain ⟨A, hA⟩ : ∃ A, A = Nt.along (Nt.rooms W F) P := ⟨_, rfl⟩
  rw [← hA] at HAL HALB HBY HB0
  obtain ⟨y, hy⟩ : ∃ y, y = Nt.byI W F P := ⟨_, rfl⟩
  rw [← hy] at HBY HK ⊢
  have HUL : Hid (us.length = n) := hide (HL.out.len.trans HFL.out)
  clear hA hy
  go_enter Try.func28, Try.ntmps28
  go_wp2_with fail
  go_loopw [7, 8, 9] (fun s7 s8 _ wr => ∃ (i q : Nat), s8 = .int .i64 ((i : Int) + 1) ∧ i + 1 ≤ m ∧ s7 = .int .i64 (Nt.b100 A i) ∧ Hid (wr = w.drewN q)) (fun _ s8 _ _ => m - (intOf s8).toNat)
  case atStart => exact ⟨0, 0, rfl, by omega, rfl, hide rfl⟩
  case round =>
    obtain ⟨i, q, rfl, hi, rfl, HQ⟩ := hrel
    have hb0 : Below w.heap.size w wr := by rw [HQ.out]; exact below_drewN (Below.refl _ _) q
    by_cases hlt : i + 1 < m
    · have l1 := HK.out.lo i (by omega)
      have l2 := HK.out.lo (i + 1) (by omega)
      obtain ⟨b1, o1, e1, r1⟩ := (HPK.out _ ((KU.refl us w).below hb0)).at (i := i) (by rw [HM.out]; omega)
      cases e1
      obtain ⟨b1, o1, e1, r2⟩ := (HPK.out _ ((KU.refl us w).below hb0)).at (i := i + 1) (by rw [HM.out]; exact hlt)
      cases e1
      have HAi := hide (HAL.out i hlt)
      have hab := HALB.out i hlt
      obtain ⟨p, ep⟩ : ∃ p : Nat, P.getD i 0 = (p : Int) := ⟨(P.getD i 0).toNat, by omega⟩
      obtain ⟨r, er⟩ : ∃ r : Nat, P.getD (i + 1) 0 = (r : Int) := ⟨(P.getD (i + 1) 0).toNat, by omega⟩
      rw [ep] at r1 l1 HAi
      rw [er] at r2 l2 HAi
      rw [Int.toNat_natCast, Int.toNat_natCast] at HAi
      have i0 : (0 : Int) ≤ (i : Int) := by omega
      have i1 : (i : Int) < (m : Int) := by omega
      have i2 : (0 : Int) ≤ (i : Int) + 1 := by omega
      have i3 : (i : Int) + 1 < (m : Int) := by omega
      have i4 : (i : Int) + 1 - 1 = (i : Int) := by omega
      have i5 : ((i : Int) + 1).toNat = i + 1 := by omega
      have r2' : wr.cell? ⟨b, o + ((i : Int) + 1).toNat, none⟩ = some (.int .i64 (r : Int)) := by rw [i5]; exact r2
      have HRM := hide fun (t : Nat) => slm_q (c := c) (d := cap) (w := wr.drewN t) HN (show p < n by omega) (show r < n by omega) HF (hide (HWK.out _ ((hb0.mono hbase).trans (below_drewN (Below.refl _ _) t)))) (hide (LL.crow (c := cap) (by rw [HFL.out]; exact (HL.out.below hb0).below (below_drewN (Below.refl _ _) t))))
      rw [← HAi.out] at HRM
      have HS : Hid (Nt.b100 A (i + 1) = if A.getD i 0 < Nt.b100 A i then A.getD i 0 else Nt.b100 A i) := hide rfl
      have HZB := hide (HB0.out i fun l hl => (HALB.out l (by omega)).1)
      generalize A.getD i 0 = x at *
      generalize Nt.b100 A i = z at *
      have HB0' := hide hb0
      clear hb0
      have hzb : 0 ≤ z ∧ z ≤ 100 := HZB.out
      obtain ⟨z0, z1⟩ := hzb
      by_cases hxz : x < z
      · have H1 : Hid (Nt.b100 A (i + 1) = x) := hide (by rw [HS.out, if_pos hxz])
        go_wp2_with fail
        go_quiet ((go_at_call 26; exact Calls.quiet_of (HRM.out _)))
        go_wp2_with fail
        go_roundw
        case rel => exact ⟨i + 1, q + nq, by simp, by omega, by rw [H1.out], hide (by rw [HQ.out, World.drewN_drewN])⟩
        case measure => simp only [intOf]; omega
      · have H1 : Hid (Nt.b100 A (i + 1) = z) := hide (by rw [HS.out, if_neg hxz])
        go_wp2_with fail
        go_quiet ((go_at_call 26; exact Calls.quiet_of (HRM.out _)))
        go_wp2_with fail
        go_roundw
        case rel => exact ⟨i + 1, q + nq, by simp, by omega, by rw [H1.out], hide (by rw [HQ.out, World.drewN_drewN])⟩
        case measure => simp only [intOf]; omega
    · have hie : i = m - 1 := by omega
      subst hie
      have i3 : ¬ ((m - 1 : Nat) : Int) + 1 < (m : Int) := by omega
      rw [HBY.out]
      have HLQ := hide (HL.out.below hb0)
      have HKQ := hide ((KU.refl us w).below hb0)
      have HBQ := hide (hb0.mono hbase)
      have hy0 := HK.out.y0
      have hy1 := HK.out.y1
      clear hb0 HQ
      go_wp2_with fail
      go_loopw [10, 11, 12, 13] (fun s10 _ _ _ wq => ∃ (j : Nat), s10 = .int .i64 ((j : Int) + 1) ∧ j + 1 ≤ m ∧ Hid (LL wq base 24 3 1 ints (.slice (some ⟨G, 0, none⟩) n cap) us (Nt.pushTo y F P j)) ∧ Hid (KU us w wq) ∧ Hid (Below base w wq)) (fun s10 _ _ _ _ => m - (intOf s10).toNat)
      case atStart => exact ⟨0, rfl, by omega, HLQ, HKQ, HBQ⟩
      case round =>
        clear HLQ HKQ HBQ
        obtain ⟨j, rfl, hj, HLQ, HKQ, HBQ⟩ := hrel
        by_cases hjm : j + 1 < m
        · have l1 := HK.out.lo j (by omega)
          have l2 := HK.out.lo (j + 1) (by omega)
          have ne := HK.out.ne j (by omega)
          obtain ⟨b1, o1, e1, r1⟩ := (HPK.out _ HKQ.out).at (i := j) (by rw [HM.out]; omega)
          cases e1
          obtain ⟨b1, o1, e1, r2⟩ := (HPK.out _ HKQ.out).at (i := j + 1) (by rw [HM.out]; exact hjm)
          cases e1
          obtain ⟨p, ep⟩ : ∃ p : Nat, P.getD j 0 = (p : Int) := ⟨(P.getD j 0).toNat, by omega⟩
          obtain ⟨q, eq⟩ : ∃ q : Nat, P.getD (j + 1) 0 = (q : Int) := ⟨(P.getD (j + 1) 0).toNat, by omega⟩
          rw [ep] at r1 l1 ne
          rw [eq] at r2 l2 ne
          have HST : Hid (Nt.pushTo y F P (j + 1) = Nt.stL (Nt.pushTo y F P j) y p q) := hide (by rw [Nt.pushTo, ep, eq, Int.toNat_natCast, Int.toNat_natCast])
          have hbd1 := HK.out.bd j (by omega) q p (by omega) (by omega)
          have hbd2 := HK.out.bd j (by omega) p q (by omega) (by omega)
          obtain ⟨gb, cb, ga, ca, S⟩ := HLQ.out.step13 (y := y) (p := p) (q := q) (by rw [Nt.pushTo_len]; exact HFL.out) (fun i hi => by rw [Nt.pushTo_row]; exact HK.out.row i hi) (by omega) (by omega) (by omega)
          generalize Nt.at2 (Nt.pushTo y F P j) q p = x1 at *
          generalize Nt.at2 (Nt.pushTo y F P j) p q = x2 at *
          obtain ⟨c1, s1, f1, c2, s2, f2, L2, b1, b2, u1, u2⟩ := S
          rw [← HST.out] at L2
          have hmn : 0 ≤ min y x1 ∧ min y x1 ≤ 50 := by omega
          have HMN : Hid (min y x1 = if y < x1 then y else x1) := hide (by split <;> omega)
          have HK2 := (HKQ.out.set (k := p) (v := .int .i64 (x1 - min y x1)) u1).set (k := q) (v := .int .i64 (x2 + (y - min y x1))) u2
          have HB2 := (HBQ.out.setCell (p := ⟨gb, p, none⟩) b1 (.int .i64 (x1 - min y x1))).setCell (p := ⟨ga, q, none⟩) b2 (.int .i64 (x2 + (y - min y x1)))
          generalize min y x1 = t at *
          have HL2 := hide L2
          have HKU2 := hide HK2
          have HBE2 := hide HB2
          have HC2 := hide c2
          have HS2 := hide s2
          have HF2 := hide f2
          obtain ⟨t0, t1⟩ := hmn
          obtain ⟨x10, x11⟩ := hbd1
          obtain ⟨x20, x21⟩ := hbd2
          have i0 : (0 : Int) ≤ (j : Int) := by omega
          have i1 : (j : Int) < (m : Int) := by omega
          have i2 : (0 : Int) ≤ (j : Int) + 1 := by omega
          have i3' : (j : Int) + 1 < (m : Int) := by omega
          have i4 : (j : Int) + 1 - 1 = (j : Int) := by omega
          have i5 : ((j : Int) + 1).toNat = j + 1 := by omega
          have r2' : wr.cell? ⟨b, o + ((j : Int) + 1).toNat, none⟩ = some (.int .i64 (q : Int)) := by rw [i5]; exact r2
          have p0 : (0 : Int) ≤ (p : Int) := by omega
          have p1 : (p : Int) < (n : Int) := by omega
          have q0 : (0 : Int) ≤ (q : Int) := by omega
          have q1 : (q : Int) < (n : Int) := by omega
          clear HST l1 l2 ne HLQ L2 HK2 HB2 c2 s2 f2 u1 u2
          go_upto_if 60 with fail
          go_cut [13] from 36 to 83 (fun s13 wc => s13 = .int .i64 t ∧ wc = wr)
          case first =>
            by_cases hyx : y < x1
            · have ht : t = y := by rw [HMN.out, if_pos hyx]
              subst ht
              go_wp2_with fail
              go_meet
              case rel => exact ⟨rfl, rfl⟩
            · have ht : t = x1 := by rw [HMN.out, if_neg hyx]
              subst ht
              go_wp2_with fail
              go_meet
              case rel => exact ⟨rfl, rfl⟩
          case rest =>
            obtain ⟨rfl, rfl⟩ := hcut
            have c2 := HC2.out
            have s2 := HS2.out
            have f2 := HF2.out
            have w1 : wrap64 (x1 - t) = x1 - t := wrap_id' _ (by omega) (by omega)
            have w2 : wrap64 (y - t) = y - t := wrap_id' _ (by omega) (by omega)
            have w3 : wrap64 (x2 + (y - t)) = x2 + (y - t) := wrap_id' _ (by omega) (by omega)
            clear HMN
            go_wp2_with fail
            go_roundw
            case rel => exact ⟨j + 1, by simp, by omega, HL2, HKU2, HBE2⟩
            case measure => simp only [intOf]; omega
        · have hje : j = m - 1 := by omega
          subst hje
          have HLE : Hid (LL wr base 24 3 1 ints (.slice (some ⟨G, 0, none⟩) n cap) us (Nt.pushL y F P)) := hide (by rw [Nt.pushL, HM.out]; exact HLQ.out)
          go_wp2_with fail
          go_ret
          exact ⟨rfl, HLE.out, HBQ.out⟩
end Go.Proofs.Ytdpjkblondoimab
namespace Go.Proofs.Ytdpjkblondoimab
open Go.RowKit

theorem own_full {w : World} {base e g n c : Nat} {xs : List Value} (h : w.ownsRow base e 1 (.slice (some ⟨g, 0, none⟩) n c) n xs) : n ≤ c ∧ ∃ ys, ys.length = c ∧ ys.take n = xs ∧ w.ownsRow base e 1 (.slice (some ⟨g, 0, none⟩) c c) c ys := by
  rcases h.2 with ⟨h', _⟩ | ⟨g', cap', cur, h', hb, hg, hnc, hcm, hcs, htake⟩
  · simp at h'
  · simp only [Value.slice.injEq, Option.some.injEq, Addr.mk.injEq, and_true, true_and] at h'
    obtain ⟨rfl, rfl⟩ := h'
    rw [Nat.mul_one] at hcs htake
    exact ⟨hnc, cur.toList, by simpa using hcs, htake, by simpa using hcs, Or.inr ⟨g, c, cur, rfl, hb, hg, Nat.le_refl _, hcm, by rw [Nat.mul_one]; exact hcs, by rw [Nat.mul_one]; exact List.take_of_length_le (by simp [hcs])⟩⟩
theorem own_prefix {w : World} {base e g n c : Nat} {ys : List Value} (h : w.ownsRow base e 1 (.slice (some ⟨g, 0, none⟩) c c) c ys) (hn : n ≤ c) : w.ownsRow base e 1 (.slice (some ⟨g, 0, none⟩) n c) n (ys.take n) := by
  have hl := h.1
  rcases h.2 with ⟨h', _⟩ | ⟨g', cap', cur, h', hb, hg, hnc, hcm, hcs, htake⟩
  · simp at h'
  · simp only [Value.slice.injEq, Option.some.injEq, Addr.mk.injEq, and_true, true_and] at h'
    obtain ⟨rfl, rfl⟩ := h'
    rw [Nat.mul_one] at hcs htake hl
    refine ⟨by rw [List.length_take]; omega, Or.inr ⟨g, c, cur, rfl, hb, hg, hn, hcm, by rw [Nat.mul_one]; exact hcs, ?_⟩⟩
    rw [← htake, Nat.mul_one, List.take_take, Nat.min_eq_left hn]
def setL (xs : List Value) : Nat → List Value → List Value
  | _, [] => xs
  | o, v :: r => setL (xs.set o v) (o + 1) r
theorem setL_len : ∀ (vs xs : List Value) (o : Nat), (setL xs o vs).length = xs.length
  | [], _, _ => rfl
  | v :: r, xs, o => by rw [setL, setL_len r]; simp
theorem setL_eq : ∀ (vs xs : List Value) (o : Nat), o + vs.length ≤ xs.length → setL xs o vs = xs.take o ++ vs ++ xs.drop (o + vs.length)
  | [], xs, o, _ => by simp [setL]
  | v :: r, xs, o, h => by
    simp only [List.length_cons] at h
    rw [setL, setL_eq r _ _ (by simp; omega), List.take_succ_eq_append_getElem (by simp; omega)]
    simp only [List.length_cons, List.getElem_set_self, List.take_set_of_le (Nat.le_refl o)]
    rw [List.drop_set_of_lt (by omega), show o + 1 + r.length = o + (r.length + 1) by omega]
    simp
theorem own_cells {base e g N : Nat} : ∀ (vs xs : List Value) (o : Nat) (w : World), w.ownsRow base e 1 (.slice (some ⟨g, 0, none⟩) N N) N xs → (w.setCells g o vs).ownsRow base e 1 (.slice (some ⟨g, 0, none⟩) N N) N (setL xs o vs) ∧ Below base w (w.setCells g o vs)
  | [], _, _, w, h => ⟨h, Below.refl _ _⟩
  | v :: r, xs, o, w, h => by
    have h1 := (h.stored o v).1
    have h2 := own_cells r (xs.set o v) (o + 1) _ h1
    exact ⟨h2.1, ((Below.refl base w).setCell (p := ⟨g, o, none⟩) (h.lt g rfl).1 v).trans h2.2⟩
theorem own_drew {w : World} {base e s n : Nat} {v : Value} {xs : List Value} (h : w.ownsRow base e s v n xs) : w.drew.ownsRow base e s v n xs := own_keep2 h fun _ _ _ => rfl
end Go.Proofs.Ytdpjkblondoimab
namespace Go.Proofs.Ytdpjkblondoimab
namespace Nt
def pwB (W F : List (List Int)) (P : List Int) : Bool := nfB W F && wayB (rooms W F) W.length P
def pwL (W F : List (List Int)) (P : List Int) : List (List Int) := if pwB W F P then pushL (byI W F P) F P else []
def pwI (W F : List (List Int)) (P : List Int) : Int := if pwB W F P then byI W F P else 0
theorem NF.rooms_nn {W F : List (List Int)} (h : NF W F) : ∀ i k, i < W.length → k < W.length → 0 ≤ at2 (rooms W F) i k := fun i k hi hk => by rw [rooms_at W F hi hk]; exact (h.room_bd hi hk).1
theorem pw_way {W F : List (List Int)} {P : List Int} (hf : NF W F) (h : wayB (rooms W F) W.length P = true) : Way (rooms W F) W.length P := way_of (rowsB_len (netB_rows hf.net)).1 h hf.rooms_nn
end Nt
open Go.RowKit
set_option maxRecDepth 100000 in
set_option maxHeartbeats 4000000 in
theorem pw_w {aw af : Option Addr} {b o n m l c d e' : Nat} {W F : List (List Int)} {P : List Int} {w : World} (HN : Hid (W.length = n)) (HM : Hid (F.length = m)) (HL : Hid (P.length = l)) (hl : l ≤ 1048576) (he : l ≤ e') (HW : Hid (CRow w aw W)) (HA : Hid (CRow w af F)) (HP : Hid (ARow w (some ⟨b, o, none⟩) P)) :
    Calls Try.prog 16 #[.slice aw n c, .slice af m d, .slice (some ⟨b, o, none⟩) l e'] w fun e w' => ∃ v us, e = .returned (.tuple #[v, .int .i64 (Nt.pwI W F P), .bool (Nt.pwB W F P)]) ∧ LL w' w.heap.size 24 3 1 ints v us (Nt.pwL W F P) ∧ Below w.heap.size w w' := by
  have HI := hide (isf_w (c := c) (d := d) HN HM HW HA)
  cases hf : Nt.nfB W F
  · have e0 : Nt.pwB W F P = false := by simp [Nt.pwB, hf]
    have e1 : Nt.pwL W F P = [] := by simp [Nt.pwL, e0]
    have e2 : Nt.pwI W F P = 0 := by simp [Nt.pwI, e0]
    rw [e1, e2, e0]
    rw [hf] at HI
    generalize Nt.askB W F = G at *
    clear hf e0 e1 e2
    go_enter Try.func16, Try.ntmps16
    go_wp2_with fail
    refine HI.out.mono ?_
    rintro e w1 ⟨rfl, hw1⟩
    obtain rfl : w = w1 := hw1.symm
    go_wp2_with fail
    go_ret3
    exact ⟨_, [], rfl, LL.nil _ _ _ _ _ _, Below.refl _ _⟩
  · have HNF := hide (Nt.nfB_iff.1 hf)
    have ha : Nt.askB W F = true := by
      have := Nt.nf_eq W F
      rw [hf] at this
      cases h : Nt.askB W F
      · rw [h] at this; simp at this
      · rfl
    rw [hf, ha] at HI
    have h8 := Nt.rowsB_len (Nt.netB_rows HNF.out.net)
    rw [HN.out] at h8
    obtain ⟨h2, h8⟩ := h8
    have hmn : m = n := by have := HNF.out.len; rw [HM.out, HN.out] at this; exact this
    subst hmn
    have HRL : Hid ((Nt.rooms W F).length = m) := hide ((Nt.rooms_len W F).trans HN.out)
    have HRR : Hid (∀ i, i < m → ((Nt.rooms W F).getD i []).length = m) := hide fun i hi => by rw [Nt.rooms_row W F (by rw [HN.out]; exact hi), Nt.roomR_len, HN.out]
    have e0 : Nt.pwB W F P = Nt.wayB (Nt.rooms W F) m P := by rw [Nt.pwB, hf, HN.out]; rfl
    cases hw : Nt.wayB (Nt.rooms W F) m P
    · rw [hw] at e0
      have e1 : Nt.pwL W F P = [] := by simp [Nt.pwL, e0]
      have e2 : Nt.pwI W F P = 0 := by simp [Nt.pwI, e0]
      rw [e1, e2, e0]
      have HWB := hide hw
      clear hf ha e0 e1 e2 hw
      go_enter Try.func16, Try.ntmps16
      go_wp2_with fail
      refine HI.out.mono ?_
      rintro e w1 ⟨rfl, hw1⟩
      obtain rfl : w = w1 := hw1.symm
      go_wp2_with fail
      refine (ro13_any HN HNF HW HA).mono ?_
      rintro e w2 ⟨v2, us2, rfl, L2, hb2⟩
      obtain ⟨a2, c2, rfl⟩ := L2.form
      have HR2 : Hid (CRow w2 a2 (Nt.rooms W F)) := hide L2.crow
      rw [HRL.out]
      have HB2 := hide hb2
      have HIW := hide (isw_any (c := c2) HRL h2 h8 HRR HR2 HL hl he (hide (HP.out.below hb2)))
      rw [HWB.out] at HIW
      clear L2 hb2
      go_wp2_with fail
      refine HIW.out.mono ?_
      rintro e w3 ⟨rfl, hb3⟩
      have HB3 := hide (HB2.out.trans (hb3.mono HB2.out.size))
      clear hb3 HIW HR2 HB2
      go_wp2_with fail
      go_ret3
      exact ⟨_, [], rfl, LL.nil _ _ _ _ _ _, HB3.out⟩
    · rw [hw] at e0
      have e1 : Nt.pwL W F P = Nt.pushL (Nt.byI W F P) F P := by simp [Nt.pwL, e0]
      have e2 : Nt.pwI W F P = Nt.byI W F P := by simp [Nt.pwI, e0]
      rw [e1, e2, e0]
      have HWB := hide hw
      have HWAY := hide (Nt.pw_way HNF.out (by rw [HN.out]; exact hw))
      have HPOK := hide (pok_of HNF.out HWAY.out HN.out HL.out)
      have hl2 := HPOK.out.m1
      have hl8 : l ≤ 8 := by have := HWAY.out.few; rw [HN.out, HL.out] at this; omega
      have HLO : Hid (∀ i, i < l → 0 ≤ P.getD i 0 ∧ P.getD i 0 < (m : Int)) := hide HPOK.out.lo
      obtain ⟨y, hy⟩ : ∃ y, y = Nt.byI W F P := ⟨_, rfl⟩
      rw [← hy] at HPOK ⊢
      have HY : Hid (Nt.lst (Nt.along (Nt.rooms W F) P) = y) := hide hy.symm
      clear hf ha e0 e1 e2 hw hy
      go_enter Try.func16, Try.ntmps16
      go_wp2_with fail
      refine HI.out.mono ?_
      rintro e w1 ⟨rfl, hw1⟩
      obtain rfl : w = w1 := hw1.symm
      go_wp2_with fail
      refine (ro13_any HN HNF HW HA).mono ?_
      rintro e w2 ⟨v2, us2, rfl, L2, hb2⟩
      obtain ⟨a2, c2, rfl⟩ := L2.form
      have HR2 : Hid (CRow w2 a2 (Nt.rooms W F)) := hide L2.crow
      rw [HRL.out]
      have HB2 := hide hb2
      have HIW := hide (isw_any (c := c2) HRL h2 h8 HRR HR2 HL hl he (hide (HP.out.below hb2)))
      rw [HWB.out] at HIW
      clear L2 hb2
      go_wp2_with fail
      refine HIW.out.mono ?_
      rintro e w3 ⟨rfl, hb3⟩
      have HB3 := hide (HB2.out.trans (hb3.mono HB2.out.size))
      have HR3 := hide (HR2.out.below hb3)
      clear hb3 HIW HR2 HB2
      go_wp2_with fail
      refine (ra13 HRL HRR HR3 HL hl2 (by omega) he (hide (HP.out.below HB3.out)) HLO).mono ?_
      rintro e w4 ⟨v4, rfl, own4, hb4⟩
      obtain ⟨g4, c4, rfl, _, _⟩ := own4.form (by omega)
      have HA4 : Hid (ARow w4 (some ⟨g4, 0, none⟩) (Nt.along (Nt.rooms W F) P)) := hide (arow_owns (by rw [Nt.along_len, HL.out]) own4)
      have HB4 := hide (HB3.out.trans (hb4.mono HB3.out.size))
      have HMI := hide (min13 (c := c4) (n := l - 1) (by rw [Nt.along_len, HL.out]) (by omega) (by omega) HA4.out)
      rw [HY.out] at HMI
      clear own4 hb4 HB3 HR3
      go_wp2_with fail
      refine HMI.out.mono ?_
      rintro e w5 ⟨rfl, hw5⟩
      obtain rfl : w4 = w5 := hw5.symm
      go_wp2_with fail
      refine (pu_any HPOK he (hide (HA.out.below HB4.out)) (hide (HP.out.below HB4.out))).mono ?_
      rintro e w6 ⟨v6, us6, rfl, L6, hb6⟩
      have HL6 := hide (L6.low HB4.out.size)
      have HB6 := hide (HB4.out.trans (hb6.mono HB4.out.size))
      clear L6 hb6 HMI HA4
      go_wp2_with fail
      go_ret3
      exact ⟨_, us6, rfl, HL6.out, HB6.out⟩
/-- A list of ints behind an empty one. -/
theorem copy13 {w : World} {a : Option Addr} {n c : Nat} {xs : List Int} (hx : xs.length = n) (hn : n ≤ 1000) (ha : ARow w a xs) :
    ∃ v' w', (∀ ty, (Builtin.append_ #[24, 24] ty #[.slice (some ⟨w.heap.size, 0, none⟩) 0 0, .slice a n c]).run Try.prog (w.alloc (.cells #[] 3)) = .ok v' w') ∧ w'.ownsRow w.heap.size 3 1 v' n (ints xs) ∧ Below w.heap.size w w' := by
  obtain ⟨i0', hi', hz0, hz1, hz2⟩ := infoI
  have hno : (w.alloc (.cells #[] 3)).ownsRow w.heap.size 3 1 (.slice (some ⟨w.heap.size, 0, none⟩) 0 0) 0 [] := by
    have h := World.ownsRow_lit (base := w.heap.size) (e := 3) (size := 1) w #[] 0 (Nat.le_refl _) (by unfold maxLen; omega) (by simp)
    simpa using h
  obtain ⟨v', w', h1, h2, h3⟩ := run_append_v (P := Try.prog) (w.alloc (.cells #[] 3)) w.heap.size 24 0 3 i0' _ 8 Try.underlying24 hi' hz0 hz1 hz2 rfl _ 0 _ hno a n c (ints xs) (by rw [ints_len, hx]) (ha.below (below_new _ _)).vrow (c_ints xs) (by unfold maxLen; omega) (by omega) (by simp)
  rw [Nat.zero_add] at h2
  exact ⟨v', w', fun _ => h1, h2, (below_new w _).trans (grown_under' h3 hno (Nat.le_refl _) (by simp))⟩
set_option maxRecDepth 100000 in
set_option maxHeartbeats 4000000 in
theorem slo_any {af : Option Addr} {n d : Nat} {F : List (List Int)} {w : World} (HM : Hid (F.length = n)) (h8 : n ≤ 8) (HRW : Hid (∀ i, i < n → (F.getD i []).length = n)) (HA : Hid (CRow w af F)) :
    Calls Try.prog 27 #[.slice af n d] w fun e w' => ∃ v us, e = .returned v ∧ LL w' w.heap.size 24 3 1 ints v us F ∧ Below w.heap.size w w' := by
  go_enter Try.func27, Try.ntmps27
  go_wp2_with fail
  go_loopw [3, 5, 8] (fun s3 _ sk wr => ∃ (k : Nat) (us : List Value), sk = .int .i64 k ∧ k ≤ n ∧ Hid (LL wr w.heap.size 24 3 1 ints s3 us (F.take k)) ∧ Hid (Below w.heap.size w wr)) (fun _ _ sk _ => n - (intOf sk).toNat)
  case atStart => exact ⟨0, [], rfl, Nat.zero_le _, hide (LL.nil _ _ _ _ _ _), hide (Below.refl _ _)⟩
  case round =>
    obtain ⟨k, us, rfl, hk, HL, HB⟩ := hrel
    by_cases hlt : k < n
    · obtain ⟨b, off, ai, ci, rfl, hb, r1, R1⟩ := (HA.out.below HB.out).at (i := k) (by rw [HM.out]; exact hlt)
      rw [HRW.out k hlt] at r1
      have j0 : (0 : Int) ≤ (k : Int) := by omega
      have j1 : (k : Int) < (n : Int) := by omega
      have hkl : (F.take k).length = k := by rw [List.length_take, HM.out]; omega
      obtain ⟨av, cv, ev⟩ := HL.out.form
      rw [hkl] at ev
      subst ev
      obtain ⟨u, w0, p0, own0, hb0⟩ := copy13 (c := ci) (HRW.out k hlt) (by omega) R1
      obtain ⟨au, cu, eu⟩ := own_form2 own0
      subst eu
      obtain ⟨G, cap, w1, p1, L1, B1⟩ := HL.out.pushRow (V := w0) (u := .slice au n cu) (r := F.getD k []) hb0 (by rw [HRW.out k hlt]; exact own0) rfl (by rw [hkl]; omega) HB.out.size
      rw [hkl] at p1 L1
      have hts : F.take k ++ [F.getD k []] = F.take (k + 1) := by rw [List.take_succ_eq_append_getElem (by rw [HM.out]; exact hlt), Pf.getD_lt _ _ (by rw [HM.out]; exact hlt)]
      rw [hts] at L1
      have r1' : (wr.alloc (.cells #[] 3)).cell? ⟨b, off + k, none⟩ = some (.slice ai n ci) := ((below_new wr _).cell (p := ⟨b, off + k, none⟩) hb).trans r1
      have HL1 := hide L1
      have HB1 := hide (HB.out.trans (B1.mono (Nat.le_refl _)))
      clear L1 B1 HL hkl hts own0 hb0 R1
      go_wp2_with (first | (at_builtin; refine Lib.wpList_append_run _ rfl (.tmp 13) (.tmp 14) 24 24 rfl _ _ rfl rfl _ _ (p0 _) ?_) | (at_builtin; refine Lib.wpList_append_run _ rfl (.tmp 12) (.tmp 16) 22 22 rfl _ _ rfl rfl _ _ (p1 _) ?_))
      go_roundw
      case rel => exact ⟨k + 1, _, by go_num, by omega, HL1, HB1⟩
      case measure => simp only [intOf]; omega
    · have hke : k = n := by omega
      subst hke
      have HE : Hid (F.take k = F) := hide (List.take_of_length_le (by rw [HM.out]; exact Nat.le_refl _))
      rw [HE.out] at HL
      go_wp2_with fail
      go_ret
      first | exact ⟨_, us, rfl, HL.out, HB.out⟩ | exact ⟨_, rfl, ⟨us, HL.out⟩, HB.out⟩
end Go.Proofs.Ytdpjkblondoimab
namespace Go.Proofs.Ytdpjkblondoimab
open Go.RowKit

/-- What the model's own look at a way has found so far. -/
structure Lk (W F : List (List Int)) (n : Nat) (P : List Int) (k : Nat) : Prop where
  ok : ∀ i, i < k → Nt.okAt n P i = true
  room : ∀ i, i + 1 < k → 0 < Nt.roomAt W F (P.getD i 0).toNat (P.getD (i + 1) 0).toNat
theorem inB_out {x lo hi : Int} (h : x < lo ∨ hi < x) : Pf.inB x lo hi = false := by
  cases e : Pf.inB x lo hi
  · rfl
  · have := Pf.inB_yes e; omega
theorem Lk.step {W F : List (List Int)} {n : Nat} {P : List Int} {k : Nat} (h : Lk W F n P k) (h1 : Nt.okAt n P k = true) (h2 : k = 0 ∨ 0 < Nt.roomAt W F (P.getD (k - 1) 0).toNat (P.getD k 0).toNat) : Lk W F n P (k + 1) := by
  refine ⟨fun i hi => ?_, fun i hi => ?_⟩
  · by_cases e : i = k
    · subst e; exact h1
    · exact h.ok i (by omega)
  · by_cases e : i + 1 = k
    · rcases h2 with h2 | h2
      · omega
      · rw [← e, Nat.add_sub_cancel] at h2; rw [e] at h2 ⊢; exact h2
    · exact h.room i (by omega)
theorem Lk.all {W F : List (List Int)} {n : Nat} {P : List Int} (hn : W.length = n) (h : Lk W F n P P.length) (h0 : P.getD 0 0 = 0) (hl : P.getD (P.length - 1) 0 = (n : Int) - 1) (h2 : 0 < P.length) : Nt.wayB (Nt.rooms W F) n P = true := by
  refine Nt.wayB_iff.2 ⟨h2, h0, hl, h.ok, ?_⟩
  cases hc : (Nt.along (Nt.rooms W F) P).contains 0
  · rfl
  · have hm := List.contains_iff_mem.1 hc
    obtain ⟨i, hi, e⟩ := List.getElem_of_mem hm
    have hi' : i + 1 < P.length := by rw [Nt.along_len] at hi; omega
    have ea := Nt.along_at (Nt.rooms W F) P hi'
    rw [Pf.getD_lt _ _ hi, e] at ea
    have hr := h.room i hi'
    have l1 := Nt.ok_lo (h.ok i (by omega))
    have l2 := Nt.ok_lo (h.ok (i + 1) hi')
    rw [Nt.rooms_at W F (by rw [hn]; omega) (by rw [hn]; omega)] at ea
    omega
set_option maxRecDepth 100000 in
set_option maxHeartbeats 8000000 in
theorem spw_nf {aw af : Option Addr} {b o n l c d e' : Nat} {W F : List (List Int)} {P : List Int} {w : World} (HN : Hid (W.length = n)) (HM : Hid (F.length = n)) (HL : Hid (P.length = l)) (hl : l ≤ 1048576) (he : l ≤ e') (HNF : Hid (Nt.NF W F)) (HSL : Hid (Calls Try.prog 20 #[.slice aw n c, .slice af n d] w fun e w' => e = .returned (.bool true) ∧ Below w.heap.size w w')) (HW : Hid (CRow w aw W)) (HA : Hid (CRow w af F)) (HP : Hid (ARow w (some ⟨b, o, none⟩) P)) :
    Calls Try.prog 14 #[.slice aw n c, .slice af n d, .slice (some ⟨b, o, none⟩) l e'] w fun e w' => ∃ v us, e = .returned (.tuple #[v, .int .i64 (Nt.pwI W F P), .bool (Nt.pwB W F P)]) ∧ LL w' w.heap.size 24 3 1 ints v us (Nt.pwL W F P) ∧ Below w.heap.size w w' := by
  have HG := hide HNF.out.net
  have h8 := Nt.rowsB_len (Nt.netB_rows HNF.out.net)
  rw [HN.out] at h8
  obtain ⟨h2, h8⟩ := h8
  have hn : n ≤ 1048576 := by omega
  have e0 : Nt.pwB W F P = Nt.wayB (Nt.rooms W F) n P := by rw [Nt.pwB, Nt.nfB_iff.2 HNF.out, HN.out]; rfl
  have HE0 := hide e0
  have HZ : Hid (Nt.wayB (Nt.rooms W F) n P = false → Nt.pwB W F P = false ∧ Nt.pwL W F P = [] ∧ Nt.pwI W F P = 0) := hide fun h => by
    have h1 : Nt.pwB W F P = false := HE0.out.trans h
    exact ⟨h1, by simp [Nt.pwL, h1], by simp [Nt.pwI, h1]⟩
  clear e0
  by_cases hl2 : l < 2
  · have hz : Nt.wayB (Nt.rooms W F) n P = false := by
      cases e : Nt.wayB (Nt.rooms W F) n P
      · rfl
      · have := (Nt.pw_way HNF.out (by rw [HN.out]; exact e)).len; rw [HL.out] at this; omega
    obtain ⟨z1, z2, z3⟩ := HZ.out hz
    rw [z1, z2, z3]
    have hl2' : (l : Int) < 2 := by omega
    clear z1 z2 z3 hz HZ HE0
    go_enter Try.func14, Try.ntmps14
    go_wp2_with fail
    refine (sgn_eq HN hn HW HG).mono ?_
    rintro e w1 ⟨rfl, hw1⟩
    obtain rfl : w = w1 := hw1.symm
    go_wp2_with fail
    refine HSL.out.mono ?_
    rintro e w2 ⟨rfl, hb2⟩
    go_wp2_with fail
    go_ret3
    exact ⟨_, [], rfl, LL.nil _ _ _ _ _ _, hb2⟩
  have hl2' : ¬ (l : Int) < 2 := by omega
  have m1 : (0 : Int) < (l : Int) := by omega
  have m2 : (0 : Int) ≤ (l : Int) - 1 := by omega
  have m3 : (l : Int) - 1 < (l : Int) := by omega
  have mt : ((l : Int) - 1).toNat = l - 1 := by omega
  have HRD : Hid (∀ (V : World) (i : Nat), Below w.heap.size w V → i < l → V.cell? ⟨b, o + i, none⟩ = some (.int .i64 (P.getD i 0))) := hide fun V i hV hi => by
    obtain ⟨b0, o0, e0, r0⟩ := (HP.out.below hV).at (i := i) (by rw [HL.out]; exact hi)
    cases e0
    exact r0
  by_cases hf : P.getD 0 0 = 0
  rotate_left
  · have hz : Nt.wayB (Nt.rooms W F) n P = false := Nt.wayB_no fun ⟨_, h, _⟩ => hf h
    obtain ⟨z1, z2, z3⟩ := HZ.out hz
    rw [z1, z2, z3]
    have hx : (P.getD 0 0 != (0 : Int)) = true := by simpa using hf
    clear z1 z2 z3 hz HZ HE0 hf
    go_enter Try.func14, Try.ntmps14
    go_wp2_with fail
    refine (sgn_eq HN hn HW HG).mono ?_
    rintro e w1 ⟨rfl, hw1⟩
    obtain rfl : w = w1 := hw1.symm
    go_wp2_with fail
    refine HSL.out.mono ?_
    rintro e w2 ⟨rfl, hb2⟩
    have r0 := HRD.out w2 0 hb2 (by omega)
    rw [Nat.add_zero] at r0
    generalize P.getD 0 0 = x at *
    go_wp2_with fail
    go_ret3
    exact ⟨_, [], rfl, LL.nil _ _ _ _ _ _, hb2⟩
  by_cases hlast : P.getD (l - 1) 0 = (n : Int) - 1
  rotate_left
  · have hz : Nt.wayB (Nt.rooms W F) n P = false := Nt.wayB_no fun ⟨_, _, h, _⟩ => by rw [HL.out] at h; exact hlast h
    obtain ⟨z1, z2, z3⟩ := HZ.out hz
    rw [z1, z2, z3]
    have hx : (P.getD (l - 1) 0 != (n : Int) - 1) = true := by simpa using hlast
    have HF0 := hide hf
    clear z1 z2 z3 hz HZ HE0 hlast hf
    go_enter Try.func14, Try.ntmps14
    go_wp2_with fail
    refine (sgn_eq HN hn HW HG).mono ?_
    rintro e w1 ⟨rfl, hw1⟩
    obtain rfl : w = w1 := hw1.symm
    go_wp2_with fail
    refine HSL.out.mono ?_
    rintro e w2 ⟨rfl, hb2⟩
    have r0 := HRD.out w2 0 hb2 (by omega)
    rw [Nat.add_zero, HF0.out] at r0
    have r1 := HRD.out w2 (l - 1) hb2 (by omega)
    have r1' : w2.cell? ⟨b, o + ((l : Int) - 1).toNat, none⟩ = some (.int .i64 (P.getD (l - 1) 0)) := by rw [mt]; exact r1
    generalize P.getD (l - 1) 0 = x at *
    go_wp2_with fail
    go_ret3
    exact ⟨_, [], rfl, LL.nil _ _ _ _ _ _, hb2⟩
  have HF0 := hide hf
  have HFL := hide hlast
  have hnl : ((n : Int) - 1 != (n : Int) - 1) = false := by simp
  have HK8 : Hid (∀ k, k ≤ l → Lk W F n P k → k ≤ 8) := hide fun k hk h => by have := Nt.ok_few (by rw [HL.out]; exact hk) h.ok; omega
  have HNO1 : Hid (∀ k, k < l → Nt.okAt n P k = false → Nt.wayB (Nt.rooms W F) n P = false) := hide fun k hk h => Nt.wayB_no fun ⟨_, _, _, h3, _⟩ => by
    have := h3 k (by rw [HL.out]; exact hk)
    rw [h] at this; cases this
  have HNO2 : Hid (∀ k, 0 < k → k < l → Lk W F n P k → Nt.okAt n P k = true → ¬ 0 < Nt.roomAt W F (P.getD (k - 1) 0).toNat (P.getD k 0).toNat → Nt.wayB (Nt.rooms W F) n P = false) := hide fun k h0 hk hlk hok hr => by
    obtain ⟨j, rfl⟩ : ∃ j, k = j + 1 := ⟨k - 1, by omega⟩
    rw [Nat.add_sub_cancel] at hr
    have l1 := Nt.ok_lo (hlk.ok j (by omega))
    have l2 := Nt.ok_lo hok
    have hb := HNF.out.room_bd (i := (P.getD j 0).toNat) (k := (P.getD (j + 1) 0).toNat) (by rw [HN.out]; omega) (by rw [HN.out]; omega)
    refine Nt.way_zero (i := j) (by rw [HL.out]; exact hk) ?_
    rw [Nt.rooms_at W F (by rw [HN.out]; omega) (by rw [HN.out]; omega)]
    omega
  have HYE : Hid (Lk W F n P l → Nt.wayB (Nt.rooms W F) n P = true) := hide fun h => Lk.all HN.out (by rw [HL.out]; exact h) HF0.out (by rw [HL.out]; exact HFL.out) (by rw [HL.out]; omega)
  clear hf hlast
  generalize hpl : Nt.pwL W F P = PL at *
  generalize hpi : Nt.pwI W F P = PI at *
  generalize hpb : Nt.pwB W F P = PB at *
  have HPL := hide hpl
  have HPI := hide hpi
  have HPB := hide hpb
  clear hpl hpi hpb
  go_enter Try.func14, Try.ntmps14
  go_wp2_with fail
  refine (sgn_eq HN hn HW HG).mono ?_
  rintro e w1 ⟨rfl, hw1⟩
  obtain rfl : w = w1 := hw1.symm
  go_wp2_with fail
  refine HSL.out.mono ?_
  rintro e w2 ⟨rfl, hb2⟩
  have r0 := HRD.out w2 0 hb2 (by omega)
  rw [Nat.add_zero, HF0.out] at r0
  have r1 := HRD.out w2 (l - 1) hb2 (by omega)
  rw [HFL.out] at r1
  have r1' : w2.cell? ⟨b, o + ((l : Int) - 1).toNat, none⟩ = some (.int .i64 ((n : Int) - 1)) := by rw [mt]; exact r1
  have HB2 := hide hb2
  clear hb2
  go_wp2_with fail
  clear r0 r1 r1'
  go_loopw [6, 7, 8, 9, 10, 47] (fun s6 s7 s8 _ _ sk wr => ∃ (k : Nat), s6 = .slice none 0 0 ∧ s7 = .int .i64 0 ∧ s8 = .bool false ∧ sk = .int .i64 k ∧ k ≤ l ∧ Hid (Lk W F n P k) ∧ Hid (Below w.heap.size w wr)) (fun _ _ _ _ _ sk _ => l - (intOf sk).toNat)
  case atStart => exact ⟨0, rfl, rfl, rfl, rfl, Nat.zero_le _, hide ⟨fun i hi => absurd hi (Nat.not_lt_zero _), fun i hi => absurd hi (Nat.not_lt_zero _)⟩, HB2⟩
  case round =>
    clear HB2
    obtain ⟨k, rfl, rfl, rfl, rfl, hk, HLK, HB⟩ := hrel
    by_cases hlt : k < l
    · have r2 := HRD.out _ k HB.out hlt
      have k0 : (0 : Int) ≤ (k : Int) := by omega
      have k1 : (k : Int) < (l : Int) := by omega
      have hk8 := HK8.out k hk HLK.out
      have HOK : Hid (Nt.okAt n P k = (Pf.inB (P.getD k 0) 0 ((n : Int) - 1) && !(P.take k).contains (P.getD k 0))) := hide rfl
      have HN1 := hide (HNO1.out k hlt)
      by_cases hx0 : P.getD k 0 < 0
      · obtain ⟨z1, z2, z3⟩ := HZ.out (HN1.out (by rw [HOK.out, inB_out (by omega)]; rfl))
        subst z1 z2 z3
        generalize P.getD k 0 = x at *
        go_wp2_with fail
        go_ret3
        first | exact ⟨_, [], rfl, LL.nil _ _ _ _ _ _, HB.out⟩ | exact ⟨_, rfl, ⟨[], LL.nil _ _ _ _ _ _⟩, HB.out⟩
      by_cases hxn : (n : Int) ≤ P.getD k 0
      · obtain ⟨z1, z2, z3⟩ := HZ.out (HN1.out (by rw [HOK.out, inB_out (by omega)]; rfl))
        subst z1 z2 z3
        generalize P.getD k 0 = x at *
        go_wp2_with fail
        go_ret3
        first | exact ⟨_, [], rfl, LL.nil _ _ _ _ _ _, HB.out⟩ | exact ⟨_, rfl, ⟨[], LL.nil _ _ _ _ _ _⟩, HB.out⟩
      have hin : Pf.inB (P.getD k 0) 0 ((n : Int) - 1) = true := Pf.inB_of (by omega) (by omega)
      rw [hin, Bool.true_and] at HOK
      have HTL : Hid ((P.take k).length = k) := hide (by rw [List.length_take, HL.out]; omega)
      have HTA := hide ((HP.out.below HB.out).take k)
      obtain ⟨p, ep⟩ : ∃ p : Nat, P.getD k 0 = (p : Int) := ⟨(P.getD k 0).toNat, by omega⟩
      have HEP := hide ep
      rw [ep] at r2 hx0 hxn HOK
      have hke : (k : Int) ≤ (e' : Int) := by omega
      clear hin ep
      cases hc : (P.take k).contains (p : Int)
      rotate_left
      · obtain ⟨z1, z2, z3⟩ := HZ.out (HN1.out (by rw [HOK.out, hc]; rfl))
        subst z1 z2 z3
        have HHA := hide (has7_eq (c := e') HTL (by omega) HTA (hide hc))
        clear hc HOK HN1
        go_wp2_with fail
        refine HHA.out.mono ?_
        rintro e w3 ⟨rfl, hw3⟩
        obtain rfl : wr = w3 := hw3.symm
        go_wp2_with fail
        go_ret3
        first | exact ⟨_, [], rfl, LL.nil _ _ _ _ _ _, HB.out⟩ | exact ⟨_, rfl, ⟨[], LL.nil _ _ _ _ _ _⟩, HB.out⟩
      have HHA := hide (has7_eq (c := e') HTL (by omega) HTA (hide hc))
      have hok : Nt.okAt n P k = true := by rw [HOK.out, hc]; rfl
      have HOKK := hide hok
      clear hc HOK HN1 hok
      by_cases hk0 : k = 0
      · have HLK2 := hide (HLK.out.step HOKK.out (Or.inl hk0))
        subst hk0
        rw [Nat.add_zero] at r2
        go_wp2_with fail
        refine HHA.out.mono ?_
        rintro e w3 ⟨rfl, hw3⟩
        obtain rfl : wr = w3 := hw3.symm
        go_wp2_with fail
        go_roundw
        case rel => exact ⟨1, rfl, rfl, rfl, by go_num, by omega, HLK2, HB⟩
        case measure => simp only [intOf]; omega
      · have kp : (0 : Int) < (k : Int) := by omega
        have kp' : ¬ (k : Int) ≤ 0 := by omega
        have kq : (0 : Int) ≤ (k : Int) - 1 := by omega
        have kr : (k : Int) - 1 < (l : Int) := by omega
        have kt : ((k : Int) - 1).toNat = k - 1 := by omega
        have r3 := HRD.out _ (k - 1) HB.out (by omega)
        have l1 := Nt.ok_lo (HLK.out.ok (k - 1) (by omega))
        have l2 := Nt.ok_lo HOKK.out
        rw [HEP.out] at l2
        have HN2 := hide (HNO2.out k (by omega) hlt HLK.out HOKK.out)
        have HST := hide fun (h : 0 < Nt.roomAt W F (P.getD (k - 1) 0).toNat (P.getD k 0).toNat) => HLK.out.step HOKK.out (Or.inr h)
        obtain ⟨q, eq⟩ : ∃ q : Nat, P.getD (k - 1) 0 = (q : Int) := ⟨(P.getD (k - 1) 0).toNat, by omega⟩
        rw [eq] at r3 l1
        rw [eq, HEP.out, Int.toNat_natCast, Int.toNat_natCast] at HN2 HST
        have r3' : wr.cell? ⟨b, o + ((k : Int) - 1).toNat, none⟩ = some (.int .i64 (q : Int)) := by rw [kt]; exact r3
        have HRM := hide (slm_any (c := c) (d := d) HN (show q < n by omega) (show p < n by omega) HNF (hide (HW.out.below HB.out)) (hide (HA.out.below HB.out)))
        generalize Nt.roomAt W F q p = x at *
        by_cases hx : 0 < x
        · have HLK2 := hide (HST.out hx)
          have hx' : ¬ x ≤ 0 := by omega
          clear HN2 HST l1 l2
          go_wp2_with fail
          refine HHA.out.mono ?_
          rintro e w3 ⟨rfl, hw3⟩
          obtain rfl : wr = w3 := hw3.symm
          go_wp2_with fail
          refine HRM.out.mono ?_
          rintro e w4 ⟨rfl, hb4⟩
          have HB4 := hide (HB.out.trans (hb4.mono HB.out.size))
          clear hb4 HRM
          go_wp2_with fail
          go_roundw
          case rel => exact ⟨k + 1, rfl, rfl, rfl, by go_num, by omega, HLK2, HB4⟩
          case measure => simp only [intOf]; omega
        · obtain ⟨z1, z2, z3⟩ := HZ.out (HN2.out (by omega))
          subst z1 z2 z3
          have hx' : x ≤ 0 := by omega
          clear HN2 HST l1 l2
          go_wp2_with fail
          refine HHA.out.mono ?_
          rintro e w3 ⟨rfl, hw3⟩
          obtain rfl : wr = w3 := hw3.symm
          go_wp2_with fail
          refine HRM.out.mono ?_
          rintro e w4 ⟨rfl, hb4⟩
          have HB4 := hide (HB.out.trans (hb4.mono HB.out.size))
          clear hb4 HRM
          go_wp2_with fail
          go_ret3
          first | exact ⟨_, [], rfl, LL.nil _ _ _ _ _ _, HB4.out⟩ | exact ⟨_, rfl, ⟨[], LL.nil _ _ _ _ _ _⟩, HB4.out⟩
    · have hke : k = l := by omega
      subst hke
      have hw := HYE.out HLK.out
      have HWAY := hide (Nt.pw_way HNF.out (by rw [HN.out]; exact hw))
      have hpb : PB = true := HE0.out.trans hw
      have hpl : PL = Nt.pushL (Nt.byI W F P) F P := by rw [← HPL.out]; unfold Nt.pwL; rw [HPB.out, hpb]; rfl
      have hpi : PI = Nt.byI W F P := by rw [← HPI.out]; unfold Nt.pwI; rw [HPB.out, hpb]; rfl
      subst hpb hpl hpi
      have HRW : Hid (∀ i, i < n → (F.getD i []).length = n) := hide fun i hi => by rw [Nt.rowsB_row HNF.out.rows (by rw [HM.out]; exact hi), HM.out]
      clear hw HLK HZ HE0 HNO1 HNO2 HYE
      go_wp2_with fail
      refine (slo_any HM h8 HRW (hide (HA.out.below HB.out))).mono ?_
      rintro e w5 ⟨v5, us5, rfl, L5, hb5⟩
      obtain ⟨G, cap, e5, _, _⟩ := L5.1.form (by rw [HM.out]; omega)
      rw [HM.out] at e5
      subst e5
      have HL5 := hide L5
      have HB5 := hide (HB.out.trans (hb5.mono HB.out.size))
      have hz5 := hb5.size
      have HWK : Hid (∀ V, Below wr.heap.size w5 V → CRow V aw W) := hide fun V hV => HW.out.below (HB5.out.trans (hV.mono HB.out.size))
      have HPK : Hid (∀ V, KU us5 w5 V → ARow V (some ⟨b, o, none⟩) P) := hide fun V hV => by
        have hp := HP.out
        rcases hp with h | ⟨b', o', e, hl', hc⟩
        · exact Or.inl h
        · cases e
          have hbb : b < wr.heap.size := Nat.lt_of_lt_of_le hl' HB.out.size
          have hblk : V.heap[b]? = w.heap[b]? := (hV.2 b (by omega) fun i e => by
            by_cases hi : i < F.length
            · have := ((L5.2.1 i hi).lt b e).1; omega
            · have := L5.len
              rw [List.getD_eq_getElem?_getD, List.getElem?_eq_none (by omega)] at e
              simp [nilS, Value.ownBlock] at e).trans (HB5.out.block b hl')
          refine Or.inr ⟨b, o, rfl, by have := hV.1; omega, fun i hi => (World.cell?_of_block (w := w) (a := ⟨b, o + i, none⟩) hblk).trans (hc i hi)⟩
      clear L5 hb5
      go_wp2_with fail
      refine (slp_any HN HNF HWAY HL HWK HL5 HPK hz5).mono ?_
      rintro e w6 ⟨rfl, L6, hb6⟩
      have HL6 := hide (L6.low HB.out.size)
      have HB6 := hide (HB5.out.trans (hb6.mono HB.out.size))
      clear L6 hb6 HL5 HPK HWK
      go_wp2_with fail
      go_ret3
      first | exact ⟨_, us5, rfl, HL6.out, HB6.out⟩ | exact ⟨_, rfl, ⟨us5, HL6.out⟩, HB6.out⟩
set_option maxHeartbeats 2000000 in
theorem spw_w {aw af : Option Addr} {b o n m l c d e' : Nat} {W F : List (List Int)} {P : List Int} {w : World} (HN : Hid (W.length = n)) (hn : n ≤ 1048576) (HM : Hid (F.length = m)) (hm : m ≤ 1048576) (HL : Hid (P.length = l)) (hl : l ≤ 1048576) (he : l ≤ e') (HW : Hid (CRow w aw W)) (HA : Hid (CRow w af F)) (HP : Hid (ARow w (some ⟨b, o, none⟩) P)) :
    Calls Try.prog 14 #[.slice aw n c, .slice af m d, .slice (some ⟨b, o, none⟩) l e'] w fun e w' => ∃ v us, e = .returned (.tuple #[v, .int .i64 (Nt.pwI W F P), .bool (Nt.pwB W F P)]) ∧ LL w' w.heap.size 24 3 1 ints v us (Nt.pwL W F P) ∧ Below w.heap.size w w' := by
  cases hg : Nt.netB W
  · have HG := hide hg
    have e0 : Nt.pwB W F P = false := by simp [Nt.pwB, Nt.nfB, hg]
    have e1 : Nt.pwL W F P = [] := by simp [Nt.pwL, e0]
    have e2 : Nt.pwI W F P = 0 := by simp [Nt.pwI, e0]
    rw [e1, e2, e0]
    clear hg e0 e1 e2
    go_enter Try.func14, Try.ntmps14
    go_wp2_with fail
    refine (sgn_eq HN hn HW HG).mono ?_
    rintro e w1 ⟨rfl, hw1⟩
    obtain rfl : w = w1 := hw1.symm
    go_wp2_with fail
    go_ret3
    exact ⟨_, [], rfl, LL.nil _ _ _ _ _ _, Below.refl _ _⟩
  · have HG := hide hg
    have HSL := hide (slf_w (c := c) (d := d) HN HM hm (hide (Nt.netB_rows hg)) HW HA)
    rw [← Nt.flow_eq hg] at HSL
    cases hf : Nt.nfB W F
    · have e0 : Nt.pwB W F P = false := by simp [Nt.pwB, hf]
      have e1 : Nt.pwL W F P = [] := by simp [Nt.pwL, e0]
      have e2 : Nt.pwI W F P = 0 := by simp [Nt.pwI, e0]
      rw [e1, e2, e0]
      rw [hf] at HSL
      clear hg hf e0 e1 e2
      go_enter Try.func14, Try.ntmps14
      go_wp2_with fail
      refine (sgn_eq HN hn HW HG).mono ?_
      rintro e w1 ⟨rfl, hw1⟩
      obtain rfl : w = w1 := hw1.symm
      go_wp2_with fail
      refine HSL.out.mono ?_
      rintro e w2 ⟨rfl, hb2⟩
      go_wp2_with fail
      go_ret3
      exact ⟨_, [], rfl, LL.nil _ _ _ _ _ _, hb2⟩
    · have HNF := hide (Nt.nfB_iff.1 hf)
      rw [hf] at HSL
      have hmn : m = n := by have := HNF.out.len; rw [HM.out, HN.out] at this; exact this
      subst hmn
      exact spw_nf HN HM HL hl he HNF HSL HW HA HP
end Go.Proofs.Ytdpjkblondoimab
namespace Go.Proofs.Ytdpjkblondoimab
open Go.RowKit

/-- Lists of ints in blocks from lo on, below hi. -/
def LLh (W : World) (lo hi : Nat) (v : Value) (us : List Value) (R : List (List Int)) : Prop :=
  LL W lo 24 3 1 ints v us R ∧ hi ≤ W.heap.size ∧ (∀ g, v.ownBlock = some g → g < hi) ∧ ∀ i g, i < R.length → (us.getD i nilS).ownBlock = some g → g < hi
theorem LL.top {W : World} {lo : Nat} {v : Value} {us : List Value} {R : List (List Int)} (h : LL W lo 24 3 1 ints v us R) : LLh W lo W.heap.size v us R := ⟨h, Nat.le_refl _, fun g e => (h.1.lt g e).2, fun i g hi e => ((h.2.1 i hi).lt g e).2⟩
theorem LLh.keep {W W' : World} {lo hi : Nat} {v : Value} {us : List Value} {R : List (List Int)} (h : LLh W lo hi v us R) (hs : W.heap.size ≤ W'.heap.size) (hb : ∀ g, lo ≤ g → g < hi → W'.heap[g]? = W.heap[g]?) : LLh W' lo hi v us R := by
  refine ⟨h.1.keep2 fun g hl hc => ?_, Nat.le_trans h.2.1 hs, h.2.2⟩
  rcases hc with hc | ⟨i, hi, hc⟩
  · exact hb g (h.1.1.lt g hc).1 (h.2.2.1 g hc)
  · exact hb g ((h.1.2.1 i hi).lt g hc).1 (h.2.2.2 i g hi hc)
theorem LLh.below {W W' : World} {lo hi : Nat} {v : Value} {us : List Value} {R : List (List Int)} (h : LLh W lo hi v us R) (hb : Below W.heap.size W W') : LLh W' lo hi v us R := h.keep hb.size fun g _ hg => hb.block g (by have := h.2.1; omega)
theorem LLh.rng {W W' : World} {lo hi a b : Nat} {v : Value} {us : List Value} {R : List (List Int)} (h : LLh W lo hi v us R) (hr : Rng a b W W') (hd : hi ≤ a ∨ b ≤ lo) : LLh W' lo hi v us R := h.keep hr.2.2.2.1 fun g h1 h2 => hr.2.2.2.2 g (by have := h.2.1; omega) (by omega)
def totTo (R : List (List Int)) : Nat → Nat
  | 0 => 0
  | i + 1 => totTo R i + (R.getD i []).length
theorem totTo_bd {R : List (List Int)} (h : ∀ i, i < R.length → (R.getD i []).length ≤ 1000) : ∀ i, i ≤ R.length → totTo R i ≤ 1000 * i
  | 0, _ => Nat.le_refl _
  | i + 1, hi => by
    have := totTo_bd h i (by omega)
    have := h i (by omega)
    simp only [totTo]; omega
/-- Marked: row by row what comes next. -/
def HLL (W : World) (v : Value) (us : List Value) (R : List (List Int)) (k : Int) : Prop :=
  (R = [] ∧ ∃ a c, v = .slice a 0 c) ∨ ∃ G cap, v = .slice (some ⟨G, 0, none⟩) R.length cap ∧ G < W.heap.size ∧ ∀ i, i < R.length → W.cell? ⟨G, i, none⟩ = some (us.getD i nilS) ∧ HeldV W (us.getD i nilS) (R.getD i []).length (k + totTo R i)
theorem HLL.below {W W' : World} {v : Value} {us : List Value} {R : List (List Int)} {k : Int} (h : HLL W v us R k) (hb : Below W.heap.size W W') : HLL W' v us R k := by
  rcases h with h | ⟨G, cap, hv, hG, hc⟩
  · exact Or.inl h
  · exact Or.inr ⟨G, cap, hv, Nat.lt_of_lt_of_le hG hb.size, fun i hi => ⟨(hb.cell (p := ⟨G, i, none⟩) hG).trans (hc i hi).1, (hc i hi).2.below hb⟩⟩
theorem LL.some {W : World} {lo : Nat} {v : Value} {us : List Value} {R : List (List Int)} (h : LL W lo 24 3 1 ints v us R) (hn : 0 < R.length) : ∃ G cap, v = .slice (some ⟨G, 0, none⟩) R.length cap := by
  obtain ⟨G, cap, e, _, _⟩ := h.1.form (by omega)
  exact ⟨G, cap, e⟩
theorem LL.none {W : World} {lo : Nat} {v : Value} {us : List Value} {R : List (List Int)} (h : LL W lo 24 3 1 ints v us R) (hn : R.length = 0) : ∃ a c, v = .slice a 0 c := by
  obtain ⟨a, c, e⟩ := h.form
  rw [hn] at e
  exact ⟨a, c, e⟩
set_option maxHeartbeats 400000 in
theorem eqLL_zero (a b : Option Addr) (c d : Nat) (w : World) :
    Calls Try.prog 10 #[.slice a 0 c, .slice b 0 d] w fun e w' => e = .returned (.bool true) ∧ w' = w := by
  go_enter Try.func10, Try.ntmps10
  go_wp2_with fail
  go_loop [5] (fun s => s = .int .i64 0) (fun _ => 0)
  case atStart => rfl
  case round =>
    subst hrel
    go_wp2_with fail
    go_ret
    exact ⟨rfl, rfl⟩
theorem eq_ll {W : World} {lo lo' : Nat} {v v' : Value} {us us' : List Value} {R : List (List Int)} (hn : R.length ≤ 1000) (hr : ∀ i, i < R.length → (R.getD i []).length ≤ 1000) (h : LL W lo 24 3 1 ints v us R) (h' : LL W lo' 24 3 1 ints v' us' R) :
    Calls Try.prog 10 #[v, v'] W fun e w' => e = .returned (.bool true) ∧ Below W.heap.size W w' := by
  by_cases h0 : R.length = 0
  · obtain ⟨a, c, rfl⟩ := h.none h0
    obtain ⟨b, d, rfl⟩ := h'.none h0
    exact (eqLL_zero a b c d W).mono fun e w' ⟨h1, h2⟩ => ⟨h1, h2 ▸ Below.refl _ _⟩
  · obtain ⟨G, c, rfl⟩ := h.some (by omega)
    obtain ⟨G', d, rfl⟩ := h'.some (by omega)
    exact eqC_b rfl (by omega) (fun i hi => by have := hr i hi; omega) h.crow h'.crow
set_option maxHeartbeats 400000 in
theorem markLL_zero (a : Option Addr) (c : Nat) (k : Int) (w : World) :
    Calls Try.prog 11 #[.slice a 0 c, .int .i64 k] w fun e w' => e = .returned (.int .i64 k) ∧ w' = w := by
  go_enter Try.func11, Try.ntmps11
  go_wp2_with fail
  go_loop [1, 5] (fun s t => s = .int .i64 k ∧ t = .int .i64 0) (fun _ _ => 0)
  case atStart => exact ⟨rfl, rfl⟩
  case round =>
    obtain ⟨rfl, rfl⟩ := hrel
    go_wp2_with fail
    go_ret
    exact ⟨rfl, rfl⟩
/-- What is marked up to row i. -/
def MS12 (W : World) (lo hi G _cap : Nat) (us : List Value) (R : List (List Int)) (k : Int) (i : Nat) (wr : World) : Prop :=
  (∀ t, t < i → HeldV wr (us.getD t nilS) (R.getD t []).length (k + totTo R t)) ∧ (∀ t, i ≤ t → t < R.length → wr.ownsRow lo 3 1 (us.getD t nilS) (R.getD t []).length (ints (R.getD t []))) ∧ (∀ t, t < R.length → wr.cell? ⟨G, t, none⟩ = some (us.getD t nilS)) ∧ Rng lo hi W wr
theorem ms_step {W wr w1 : World} {lo hi G cap : Nat} {us : List Value} {R : List (List Int)} {k : Int} {i : Nat} (h : LLh W lo hi (.slice (some ⟨G, 0, none⟩) R.length cap) us R) (hi' : i < R.length) (hm : MS12 W lo hi G cap us R k i wr) (hh : HeldV w1 (us.getD i nilS) (R.getD i []).length (k + totTo R i)) (hg : wr.grownBy w1 (us.getD i nilS).ownBlock) : MS12 W lo hi G cap us R k (i + 1) w1 := by
  obtain ⟨m1, m2, m3, m4⟩ := hm
  have hGl : G < W.heap.size := (h.1.1.lt G rfl).2
  have z := m4.2.2.2.1
  refine ⟨fun t ht => ?_, fun t h1 h2 => own_keep2 (m2 t (by omega) h2) fun g hv hl => hg.block g hl (fun e => h.1.2.2.2 i t g hi' h2 (by omega) e.symm hv), fun t ht => ?_, ?_⟩
  · by_cases e : t = i
    · subst e; exact hh
    · refine (m1 t (by omega)).keep hg.size fun g hv => ?_
      have hl := ((h.1.2.1 t (by omega)).lt g hv).2
      exact hg.block g (by omega) (fun e' => h.1.2.2.2 i t g hi' (by omega) (Ne.symm e) e'.symm hv)
  · rw [World.cell?_of_block (w := wr) (a := ⟨G, t, none⟩) (hg.block G (by omega) (fun e => h.1.2.2.1 i G hi' e.symm rfl))]
    exact m3 t ht
  · refine ⟨hg.os.trans m4.1, hg.tape.trans m4.2.1, hg.output.trans m4.2.2.1, Nat.le_trans z hg.size, fun b hb hc => ?_⟩
    refine (hg.block b (by omega) (fun e => ?_)).trans (m4.2.2.2.2 b hb hc)
    have h1 := ((h.1.2.1 i hi').lt b e.symm).1
    have h2 := h.2.2.2 i b hi' e.symm
    omega
set_option maxHeartbeats 2000000 in
theorem mark_ll {W : World} {lo hi : Nat} {v : Value} {us : List Value} {R : List (List Int)} {k : Int} (hn : R.length ≤ 1000) (hr : ∀ i, i < R.length → (R.getD i []).length ≤ 1000) (k0 : 0 ≤ k) (k1 : k ≤ 1000) (h : LLh W lo hi v us R) :
    Calls Try.prog 11 #[v, .int .i64 k] W fun e w' => e = .returned (.int .i64 (k + totTo R R.length)) ∧ HLL w' v us R k ∧ Rng lo hi W w' := by
  by_cases h0 : R.length = 0
  · obtain ⟨a, c, rfl⟩ := h.1.none h0
    have hR : R = [] := List.length_eq_zero_iff.1 h0
    refine (markLL_zero a c k W).mono fun e w' ⟨h1, h2⟩ => ⟨by rw [h1, h0]; simp [totTo], Or.inl ⟨hR, a, c, rfl⟩, h2 ▸ Rng.refl _ _ _⟩
  · obtain ⟨G, cap, rfl⟩ := h.1.some (by omega)
    have HH := hide h
    have HR := hide hr
    have HTB := hide (totTo_bd hr)
    have HST : Hid (∀ i, totTo R (i + 1) = totTo R i + (R.getD i []).length) := hide fun i => rfl
    have HMS : Hid (MS12 W lo hi G cap us R k 0 W) := hide ⟨fun t ht => absurd ht (Nat.not_lt_zero _), fun t _ h2 => h.1.2.1 t h2, fun t ht => h.1.cell ht, Rng.refl _ _ _⟩
    have hGl : Hid (G < W.heap.size) := hide (h.1.1.lt G rfl).2
    obtain ⟨m, hm⟩ : ∃ m, R.length = m := ⟨_, rfl⟩
    have HM := hide hm
    rw [hm]
    rw [hm] at hn h0
    clear h hr hm
    go_enter Try.func11, Try.ntmps11
    go_wp2_with fail
    go_loopw [1, 5] (fun s t wr => ∃ (i : Nat) (q : Int), s = .int .i64 q ∧ t = .int .i64 i ∧ i ≤ m ∧ Hid (q = k + (totTo R i : Int)) ∧ Hid (MS12 W lo hi G cap us R k i wr)) (fun _ t _ => m - (intOf t).toNat)
    case atStart => exact ⟨0, k, rfl, rfl, Nat.zero_le _, hide (by simp [totTo]), HMS⟩
    case round =>
      obtain ⟨i, q, rfl, rfl, hi', HQ, HS⟩ := hrel
      have htb := HTB.out i (by rw [HM.out]; exact hi')
      have hq0 := HQ.out
      by_cases hlt : i < m
      · have hil : i < R.length := by rw [HM.out]; exact hlt
        have c0 := HS.out.2.2.1 i hil
        have own := HS.out.2.1 i (Nat.le_refl _) hil
        have hrl := HR.out i hil
        obtain ⟨av, cv, ev⟩ := own_form2 own
        have q0 : 0 ≤ q := by omega
        have q1 : q ≤ 1000000000 := by omega
        have HMK := hide (markV_any (k := q) rfl (by omega) q0 q1 own)
        have HNX := hide fun w1 (h1 : HeldV w1 (us.getD i nilS) (R.getD i []).length (k + totTo R i)) h2 => ms_step HH.out hil HS.out h1 h2
        rw [← hq0] at HNX
        have hst := HST.out i
        rw [ev] at c0 HMK
        rw [ev] at HNX
        have HQ' : Hid (q + ((R.getD i []).length : Int) = k + (totTo R (i + 1) : Int)) := hide (by omega)
        have j0 : (0 : Int) ≤ (i : Int) := by omega
        have j1 : (i : Int) < (m : Int) := by omega
        generalize (R.getD i []).length = len at *
        clear own ev hq0 htb hst
        go_wp2_with fail
        refine HMK.out.mono ?_
        rintro e w1 ⟨rfl, h1, h2⟩
        have HS' := hide (HNX.out w1 h1 h2)
        clear h1 h2 HNX HMK
        go_wp2_with fail
        go_roundw
        case rel => exact ⟨i + 1, q + len, rfl, by go_num, by omega, HQ', HS'⟩
        case measure => simp only [intOf]; omega
      · have hie : i = m := by omega
        subst hie
        clear htb hq0
        go_wp2_with fail
        go_ret
        obtain ⟨m1, m2, m3, m4⟩ := HS.out
        exact ⟨ret_int HQ.out, Or.inr ⟨G, cap, by rw [HM.out], Nat.lt_of_lt_of_le hGl.out m4.2.2.2.1, fun t ht => ⟨m3 t ht, m1 t (by rw [HM.out] at ht; exact ht)⟩⟩, m4⟩
set_option maxHeartbeats 400000 in
theorem heldLL_zero (a : Option Addr) (c : Nat) (k : Int) (w : World) :
    Calls Try.prog 17 #[.slice a 0 c, .int .i64 k] w fun e w' => e = .returned (.int .i64 k) ∧ w' = w := by
  go_enter Try.func17, Try.ntmps17
  go_wp2_with fail
  go_loop [1, 4, 5] (fun s _ t => s = .int .i64 k ∧ t = .int .i64 0) (fun _ _ _ => 0)
  case atStart => exact ⟨rfl, rfl⟩
  case round =>
    obtain ⟨rfl, rfl⟩ := hrel
    go_wp2_with fail
    go_ret
    exact ⟨rfl, rfl⟩
set_option maxHeartbeats 2000000 in
theorem held_ll {W : World} {v : Value} {us : List Value} {R : List (List Int)} {k : Int} (hn : R.length ≤ 1000) (hr : ∀ i, i < R.length → (R.getD i []).length ≤ 1000) (k0 : 0 ≤ k) (k1 : k ≤ 1000) (h : HLL W v us R k) :
    Calls Try.prog 17 #[v, .int .i64 k] W fun e w' => e = .returned (.int .i64 (k + totTo R R.length)) ∧ w' = W := by
  rcases h with ⟨rfl, a, c, rfl⟩ | ⟨G, cap, rfl, hG, hc⟩
  · exact (heldLL_zero a c k W).mono fun e w' ⟨h1, h2⟩ => ⟨by rw [h1]; simp [totTo], h2⟩
  · have HC := hide hc
    have HR := hide hr
    have HTB := hide (totTo_bd hr)
    have HST : Hid (∀ i, totTo R (i + 1) = totTo R i + (R.getD i []).length) := hide fun i => rfl
    obtain ⟨m, hm⟩ : ∃ m, R.length = m := ⟨_, rfl⟩
    have HM := hide hm
    rw [hm]
    rw [hm] at hn
    clear hc hr hm
    go_enter Try.func17, Try.ntmps17
    go_wp2_with fail
    go_loop [1, 4, 5] (fun s _ t => ∃ (i : Nat) (q : Int), s = .int .i64 q ∧ t = .int .i64 i ∧ i ≤ m ∧ Hid (q = k + (totTo R i : Int))) (fun _ _ t => m - (intOf t).toNat)
    case atStart => exact ⟨0, k, rfl, rfl, Nat.zero_le _, hide (by simp [totTo])⟩
    case round =>
      obtain ⟨i, q, rfl, rfl, hi', HQ⟩ := hrel
      have htb := HTB.out i (by rw [HM.out]; exact hi')
      have hq0 := HQ.out
      by_cases hlt : i < m
      · have hil : i < R.length := by rw [HM.out]; exact hlt
        obtain ⟨c0, hh⟩ := HC.out i hil
        have hrl := HR.out i hil
        rw [← hq0] at hh
        have q0 : 0 ≤ q := by omega
        have q1 : q ≤ 1000000000 := by omega
        have HV := hide (heldV_any (by omega) q0 q1 hh)
        obtain ⟨av, cv, ev⟩ : ∃ a c, us.getD i nilS = .slice a (R.getD i []).length c := by
          rcases hh with ⟨e, e2⟩ | ⟨g, cp, e, _⟩
          · exact ⟨none, 0, by rw [e, e2]⟩
          · exact ⟨_, _, e⟩
        rw [ev] at c0 HV
        have hst := HST.out i
        have HQ' : Hid (q + ((R.getD i []).length : Int) = k + (totTo R (i + 1) : Int)) := hide (by omega)
        have hqn : ¬ q + ((R.getD i []).length : Int) < 0 := by omega
        have j0 : (0 : Int) ≤ (i : Int) := by omega
        have j1 : (i : Int) < (m : Int) := by omega
        generalize (R.getD i []).length = len at *
        clear hh ev hq0 htb hst
        go_wp2_with fail
        refine HV.out.mono ?_
        rintro e w1 ⟨rfl, hw⟩
        obtain rfl : W = w1 := hw.symm
        go_wp2_with fail
        go_round
        case rel => exact ⟨i + 1, q + len, rfl, by go_num, by omega, HQ'⟩
        case measure => simp only [intOf]; omega
      · have hie : i = m := by omega
        subst hie
        clear htb hq0
        go_wp2_with fail
        go_ret
        exact ⟨ret_int HQ.out, rfl⟩
end Go.Proofs.Ytdpjkblondoimab
namespace Go.Proofs.Ytdpjkblondoimab
open Go.RowKit

/-- A list that a call made, from lo on and below hi. -/
def AV (w : World) (lo hi : Nat) (v : Value) (n : Nat) (xs : List Int) : Prop := w.ownsRow lo 3 1 v n (ints xs) ∧ (∀ g, v.ownBlock = some g → g < hi) ∧ hi ≤ w.heap.size
theorem AV.new {w : World} {lo n : Nat} {v : Value} {xs : List Int} (h : w.ownsRow lo 3 1 v n (ints xs)) : AV w lo w.heap.size v n xs := ⟨h, fun g hg => (h.lt g hg).2, Nat.le_refl _⟩
theorem AV.below {w w' : World} {lo hi n : Nat} {v : Value} {xs : List Int} (h : AV w lo hi v n xs) (hb : Below w.heap.size w w') : AV w' lo hi v n xs := ⟨own_below h.1 hb, h.2.1, Nat.le_trans h.2.2 hb.size⟩
theorem AV.rng {w w' : World} {lo hi n a b : Nat} {v : Value} {xs : List Int} (h : AV w lo hi v n xs) (hr : Rng a b w w') (hd : hi ≤ a ∨ b ≤ lo) : AV w' lo hi v n xs :=
  ⟨own_keep h.1 fun g hg hl => hr.2.2.2.2 g hl (by have := h.1.lt g hg; have := h.2.1 g hg; omega), h.2.1, Nat.le_trans h.2.2 hr.2.2.2.1⟩
theorem AV.grown {w w' : World} {lo hi n lo' hi' n' : Nat} {v v' : Value} {xs ys : List Int} (h : AV w lo hi v n xs) (h' : AV w lo' hi' v' n' ys) (hg : w.grownBy w' v'.ownBlock) (hd : hi ≤ lo' ∨ v.ownBlock = none ∨ v.ownBlock ≠ v'.ownBlock) : AV w' lo hi v n xs := by
  refine ⟨own_keep h.1 fun g hv hl => hg.block g hl fun e => ?_, h.2.1, Nat.le_trans h.2.2 hg.size⟩
  have h1 := h'.1.lt g e.symm
  have h2 := h.2.1 g hv
  rcases hd with hd | hd | hd
  · omega
  · rw [hd] at hv; cases hv
  · exact hd (hv.trans e)
theorem AV.under {w w' : World} {lo hi n k : Nat} {v : Value} {xs : List Int} (h : AV w lo hi v n xs) (hg : w.grownBy w' v.ownBlock) (hk : k ≤ lo) (hs : k ≤ w.heap.size) : Below k w w' := grown_under hg h.1 hk hs
/-- What is held from k on, in a list that lies from lo on and below hi. -/
def HV (w : World) (v : Value) (n : Nat) (k : Int) : Prop := HeldV w v n k
theorem HV.below {w w' : World} {v : Value} {n : Nat} {k : Int} (h : HV w v n k) (hb : Below w.heap.size w w') : HV w' v n k := HeldV.below h hb
theorem HV.grown {w w' : World} {v v' : Value} {n : Nat} {k : Int} (h : HV w v n k) (hg : w.grownBy w' v'.ownBlock) (hd : v.ownBlock = none ∨ v.ownBlock ≠ v'.ownBlock) : HV w' v n k := by
  rcases h with h | ⟨g, cap, rfl, hl, hc⟩
  · exact Or.inl h
  · refine Or.inr ⟨g, cap, rfl, Nat.lt_of_lt_of_le hl hg.size, fun j hj => (World.cell?_of_block (w := w) (a := ⟨g, j, none⟩) (hg.block g hl fun e => ?_)).trans (hc j hj)⟩
    rcases hd with hd | hd
    · cases hd
    · exact hd e
theorem eq_av {w : World} {lo hi lo' hi' n : Nat} {v v' : Value} {xs : List Int} (hx : Hid (xs.length = n)) (hn : n ≤ 1048576) (h : AV w lo hi v n xs) (h' : AV w lo' hi' v' n xs) :
    Calls Try.prog 9 #[v, v'] w fun e w' => e = .returned (.bool true) ∧ Below w.heap.size w w' := eqV_any hx.out hn h.1 h'.1
theorem mark_av {w : World} {lo hi n : Nat} {v : Value} {xs : List Int} {k : Int} (hx : Hid (xs.length = n)) (hn : n ≤ 1048576) (k0 : 0 ≤ k) (k1 : k ≤ 1000000000) (h : AV w lo hi v n xs) :
    Calls Try.prog 12 #[v, .int .i64 k] w fun e w' => e = .returned (.int .i64 (k + n)) ∧ HV w' v n k ∧ w.grownBy w' v.ownBlock := markV_any hx.out hn k0 k1 h.1
theorem held_hv {w : World} {n : Nat} {v : Value} {k : Int} (hn : n ≤ 1048576) (k0 : 0 ≤ k) (k1 : k ≤ 1000000000) (h : HV w v n k) :
    Calls Try.prog 13 #[v, .int .i64 k] w fun e w' => e = .returned (.int .i64 (k + n)) ∧ w' = w := heldV_any hn k0 k1 h
end Go.Proofs.Ytdpjkblondoimab
namespace Go.Proofs.Ytdpjkblondoimab
open Go.RowKit

theorem COw.keep {W W' : World} {B hi : Nat} {F : List (List Int)} (h : COw W B hi F) (hs : W.heap.size ≤ W'.heap.size) (hb : ∀ g, B ≤ g → g < hi → W'.heap[g]? = W.heap[g]?) : COw W' B hi F := by
  obtain ⟨h1, h2, gs, h3, h4⟩ := h
  refine ⟨Nat.le_trans h1 hs, h2, gs, h3, h4.1, own_keep2 h4.2.1 fun g hv _ => ?_, fun i hi' => own_keep2 (h4.2.2.1 i hi') fun g hv _ => ?_, h4.2.2.2⟩
  · have : B = g := by simpa [Value.ownBlock] using hv
    exact hb g (by omega) (by omega)
  · have e : gs.getD i 0 = g := by simpa [cv, Value.ownBlock] using hv
    have hm := h4.at_mem hi'
    rw [e] at hm
    have := h4.2.2.2.2 g hm
    exact hb g (by omega) (h3 g hm)
theorem COw.rng {W W' : World} {B hi a b : Nat} {F : List (List Int)} (h : COw W B hi F) (hr : Rng a b W W') (hd : hi ≤ a ∨ b ≤ B) : COw W' B hi F := h.keep hr.2.2.2.1 fun g h1 h2 => hr.2.2.2.2 g (by have := h.1; omega) (by omega)
set_option maxHeartbeats 2000000 in
theorem markC_k {B hi n : Nat} {F : List (List Int)} {w : World} {k0 : Int} (hk0 : 0 ≤ k0) (hk1 : k0 ≤ 2000000000000) (HN : Hid (F.length = n)) (hn' : n ≤ 1048576) (HL : Hid (∀ i, i < n → (F.getD i []).length ≤ 1048576)) (h : COw w B hi F) :
    Calls Try.prog 11 #[.slice (some ⟨B, 0, none⟩) n n, .int .i64 k0] w fun e w' => ∃ q : Int, e = .returned (.int .i64 q) ∧ 0 ≤ q ∧ q ≤ k0 + 1048576 * (n : Int) ∧ Rng B hi w w' := by
  obtain ⟨hz, hBz, gs, hgz, h⟩ := h
  have H := hide h
  have HZ := hide hgz
  clear h hgz
  go_enter Try.func11, Try.ntmps11
  go_wp2_with fail
  go_loopw [1, 5] (fun s t wr => ∃ (i : Nat) (q : Int), s = .int .i64 q ∧ t = .int .i64 i ∧ i ≤ n ∧ 0 ≤ q ∧ q ≤ k0 + 1048576 * (i : Int) ∧ Hid (MkC w wr B hi gs F i)) (fun _ t _ => n - (intOf t).toNat)
  case atStart =>
    refine ⟨0, k0, rfl, rfl, Nat.zero_le _, by omega, by omega, hide ⟨fun t ht => ?_, fun t _ ht => H.out.2.2.1 t ht, Rng.refl _ _ _⟩⟩
    rw [H.out.2.1.cellAt t (by omega)]
    simp [cvals, ht]
  case round =>
    obtain ⟨i, q, rfl, rfl, hi', q0, q1, HM⟩ := hrel
    by_cases hlt : i < n
    · have hiL : i < F.length := by rw [HN.out]; exact hlt
      have c0 := HM.out.1 i hiL
      have HO := hide (HM.out.2.1 i (Nat.le_refl _) hiL)
      have hln := HL.out i hlt
      unfold cv at c0 HO
      generalize hm : (F.getD i []).length = m at c0 HO hln
      generalize hg : gs.getD i 0 = g at c0 HO
      have i0 : (0 : Int) ≤ (i : Int) := by omega
      have i1 : (i : Int) < (n : Int) := by omega
      have HX := hide hm
      have HG := hide hg
      clear hm hg
      go_wp2_with fail
      refine (mark_any g m m B (F.getD i []) q _ HX.out (by omega) (by omega) (by omega) HO.out).mono ?_
      rintro e w2 ⟨rfl, _, hg2⟩
      have hgm : g ∈ gs := by rw [← HG.out]; exact H.out.at_mem hiL
      have hgb := (H.out.lt hgm)
      have hgh := HZ.out g hgm
      have hBg := H.out.2.2.2.2 g hgm
      have HM2 : Hid (MkC w w2 B hi gs F (i + 1)) := hide (by
        obtain ⟨m1, m2, m3⟩ := HM.out
        refine ⟨fun t ht => ?_, fun t h1 h2 => ?_, m3.grown hg2 (by omega) hgh⟩
        · have hBs := (H.out.2.1.lt B rfl).2
          have := m3.2.2.2.1
          exact (World.cell?_of_block (w := wr) (a := ⟨B, t, none⟩) (hg2.block B (by omega) (by simp; omega))).trans (m1 t ht)
        · refine (m2 t (by omega) h2).kept hg2 (Or.inr ?_)
          have := lt_of_pw8 H.out.2.2.2.1 (show i < t by omega) (by rw [H.out.1]; exact h2)
          rw [HG.out] at this
          simp only [cv, Value.ownBlock, ne_eq, Option.some.injEq]
          omega)
      clear hg2
      go_wp2_with fail
      go_roundw
      case rel => exact ⟨i + 1, q + m, rfl, by go_num, by omega, by omega, by omega, HM2⟩
      case measure => simp only [intOf]; omega
    · have hie : i = n := by omega
      subst hie
      go_wp2_with fail
      go_ret
      exact ⟨q, rfl, q0, q1, HM.out.2.2⟩
end Go.Proofs.Ytdpjkblondoimab
namespace Go.Proofs.Ytdpjkblondoimab
open Go.RowKit

def Car (w0 w : World) (a b : Option Addr) (xs ys : List Int) : Prop := ARow w a xs ∧ ARow w b ys ∧ Below w0.heap.size w0 w
theorem Car.step {w0 w w' : World} {a b : Option Addr} {xs ys : List Int} (h : Car w0 w a b xs ys) (hb : Below w.heap.size w w') : Car w0 w' a b xs ys :=
  ⟨h.1.below hb, h.2.1.below hb, h.2.2.trans (hb.mono h.2.2.size)⟩
theorem Car.alloc {w0 w : World} {a b : Option Addr} {xs ys : List Int} (h : Car w0 w a b xs ys) (o : Obj) : Car w0 (w.alloc o) a b xs ys := h.step (below_alloc _ _)
theorem toI_a {a : Option Addr} {n : Nat} {xs : List Int} {w : World} (c : Nat) (hx : Hid (xs.length = n)) (hn : n ≤ 1048576) (ha : ARow w a xs) :
    Calls Try.prog 15 #[.slice a n c] w fun e w' => e = .returned (.slice (some ⟨w.heap.size, 0, none⟩) n n) ∧ Below w.heap.size w w' ∧ ARow w' (some ⟨w.heap.size, 0, none⟩) xs :=
  (toI_own a c n xs w hx.out hn ha).mono fun _ _ ⟨h1, h2, _, h4⟩ => ⟨h1, h2, arow_owns hx.out.symm h4⟩
end Go.Proofs.Ytdpjkblondoimab
namespace Go.Proofs.Ytdpjkblondoimab
open Go.ChangeShapes Go.WideShapes Go.ChangeAt Go.RowKit Go.Deep

theorem laidOut' : laidOutB Try.prog = true := by kernel_rfl

set_option maxRecDepth 100000 in
theorem opened_ints {H : Type} {enc : TypeId × Value → H} {W : World} {fuel : Nat} {c : Value} {x : DataW H × List MemPlace} {sp : Nat → Bool}
    (hf : DataW.trod enc Try.prog W 0 sp true fuel 24 [c] = some x) : ∃ (a : Option Addr) (xs : List Int) (cap : Nat), c = .slice a xs.length cap ∧ xs.length ≤ maxLen ∧ ARow W a xs := by
  rcases open_ints Try.underlying24 Try.underlying3 (by kernel_rfl) hf with ⟨hcs, _⟩ | ⟨a, len, cap, zs, hcs, _, hl, hcap, hzl, _, hcell, _⟩
  · simp at hcs
    subst hcs
    exact ⟨none, [], 0, rfl, by simp, Or.inl rfl⟩
  · simp at hcs
    subst hcs
    have hlm : len ≤ zs.length := by rw [hzl]; split <;> omega
    refine ⟨some a, zs.take len, cap, by simp [hlm], by simp [hlm]; omega, ?_⟩
    by_cases h : len = 0
    · left; subst h; rfl
    · right
      obtain ⟨b, off, spot⟩ := a
      have hc := hcell 0 (by omega)
      have hspot : spot = none := by simpa [Addr.add] using World.cell?_spot hc
      subst hspot
      refine ⟨b, off, rfl, World.block_lt_of_cell? W _ hc, ?_⟩
      intro i hi
      simp [hlm] at hi
      have hci := hcell i (by omega)
      rw [add_plain] at hci
      rw [hci]
      simp [hi]

set_option maxRecDepth 100000 in
theorem opened_slice {H : Type} {enc : TypeId × Value → H} {W : World} {base : Nat} {v : Value} {x : DataW H} {p : List MemPlace} {sp : Nat → Bool} (hv : Value.okWide Try.prog W .any base 24 v)
    (h0 : DataW.Trod enc Try.prog W 0 sp true 24 v x p) : ∃ (a : Option Addr) (xs : List Int) (c : Nat), v = .slice a xs.length c ∧ xs.length ≤ maxLen ∧ ARow W a xs := by
  obtain ⟨a0, len0, cap0, rfl⟩ := okWide_slice Try.underlying24 hv
  obtain ⟨fuel, hf⟩ := h0
  exact opened_ints hf
theorem cellsS : Try.prog.cellsOf 24 = 1 := by kernel_rfl
end Go.Proofs.Ytdpjkblondoimab
namespace Go.Proofs.Ytdpjkblondoimab
open Go.ChangeShapes Go.WideShapes Go.ChangeAt Go.RowKit Go.Deep

theorem cellsCs : Try.prog.cellsOf 24 = 1 := by kernel_rfl
theorem cellsC1 : Try.prog.cellsOf 3 = 1 := by kernel_rfl
set_option maxRecDepth 100000 in
theorem opened_costs {H : Type} {enc : TypeId × Value → H} {W : World} {base : Nat} {v : Value} {x : DataW H} {p : List MemPlace} (hv : Value.okWide Try.prog W .any base 22 v)
    (h0 : DataW.Trod enc Try.prog W 0 (fun _ => true) true 22 v x p) : ∃ (a : Option Addr) (F : List (List Int)) (c : Nat), v = .slice a F.length c ∧ F.length ≤ maxLen ∧ CFits F ∧ CRow W a F := by
  obtain ⟨a0, len0, cap0, rfl⟩ := okWide_slice Try.underlying22 hv
  obtain ⟨fuel, hf⟩ := h0
  rcases open_int_rows Try.underlying22 Try.underlying24 Try.underlying3 cellsCs cellsC1 hf with ⟨hcs, _⟩ | ⟨a, len, cap, A, L, C, B, hcs, _, hl, hcap, _, hx⟩
  · simp [Value.cells] at hcs
    obtain ⟨rfl, rfl, rfl⟩ := hcs
    exact ⟨none, [], 0, rfl, Nat.zero_le _, fun i => by simp, Or.inl rfl⟩
  · simp [Value.cells] at hcs
    obtain ⟨rfl, rfl, rfl⟩ := hcs
    have hget : ∀ i, i < len0 → ((List.range len0).map fun i => (List.range (L i)).map (fun j => (B i).getD j 0)).getD i [] = (List.range (L i)).map (fun j => (B i).getD j 0) := fun i hi => by simp [hi]
    have hlen : ∀ i, i < len0 → (((List.range len0).map fun i => (List.range (L i)).map (fun j => (B i).getD j 0)).getD i []).length = L i := fun i hi => by rw [hget i hi]; simp
    refine ⟨some a, (List.range len0).map fun i => (List.range (L i)).map (fun j => (B i).getD j 0), cap0, by simp, by simp; omega, fun i => ?_, ?_⟩
    · by_cases hi : i < len0
      · rw [hlen i hi]; have := hx i (by omega); omega
      · simp [show len0 ≤ i by omega]
    · by_cases h : len0 = 0
      · left; subst h; rfl
      · right
        obtain ⟨b, off, spot⟩ := a
        have hc := (hx 0 (by omega)).1
        have hspot : spot = none := by simpa [Addr.add] using World.cell?_spot hc
        subst hspot
        refine ⟨b, off, rfl, World.block_lt_of_cell? W _ hc, ?_⟩
        intro i hi
        simp at hi
        obtain ⟨c0, hLC, hCm, _, _, hnone, hsome⟩ := hx i (by omega)
        rw [add_plain] at c0
        rw [hlen i hi, hget i hi]
        refine ⟨A i, C i, c0, ?_⟩
        by_cases hL : L i = 0
        · left; rw [hL]; rfl
        · right
          obtain ⟨a', ha'⟩ : ∃ a', A i = some a' := by
            cases e : A i with
            | none => have := hnone e; omega
            | some a' => exact ⟨a', rfl⟩
          obtain ⟨_, hcell⟩ := hsome a' ha'
          obtain ⟨b', off', spot'⟩ := a'
          have hc' := hcell 0 (by omega)
          have hspot' : spot' = none := by simpa [Addr.add] using World.cell?_spot hc'
          subst hspot'
          refine ⟨b', off', ha', World.block_lt_of_cell? W _ hc', fun j hj => ?_⟩
          simp at hj
          have := hcell j (by omega)
          rw [add_plain] at this
          rw [this]
          simp [hj]
end Go.Proofs.Ytdpjkblondoimab
