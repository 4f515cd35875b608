/-
  What SmithOrder answers, the program's and the model's: families by weight for each.
-/
import Derived.Test.YthhahfcdnpegfaaHn
import Derived.Test.YthhahfcdnpegfaaHh
import Derived.BigQuiet
import Derived.Deep.Cut
namespace Go.Proofs.Ythhahfcdnpegfaa
open Go.RowKit Go.Sort

namespace Fm
/-- A weight for each, as a whole number: so much of 2520. -/
def key (f : Int × Int) : Int := f.1 * (2520 / f.2)
def keys (L : List (Int × Int)) : List Int := L.map key
theorem keys_len (L : List (Int × Int)) : (keys L).length = L.length := by simp [keys]
theorem keys_val (L : List (Int × Int)) (i : Nat) : Rk.val (keys L) i = key (L.getD i (0, 0)) := by
  simp only [Rk.val, keys, List.getD_eq_getElem?_getD, List.getElem?_map]
  cases L[i]? <;> simp [key]
theorem part {m : Int} (h0 : 1 ≤ m) (h1 : m ≤ 9) : 0 < 2520 / m ∧ m * (2520 / m) = 2520 := by
  have : m = 1 ∨ m = 2 ∨ m = 3 ∨ m = 4 ∨ m = 5 ∨ m = 6 ∨ m = 7 ∨ m = 8 ∨ m = 9 := by omega
  rcases this with rfl | rfl | rfl | rfl | rfl | rfl | rfl | rfl | rfl <;> decide
theorem lt_iff {f g : Int × Int} (hf : okF f = true) (hg : okF g = true) : f.1 * g.2 < g.1 * f.2 ↔ key f < key g := by
  obtain ⟨_, f1, f2⟩ := okF_yes hf
  obtain ⟨_, g1, g2⟩ := okF_yes hg
  obtain ⟨cf, hf'⟩ := part f1 f2
  obtain ⟨cg, hg'⟩ := part g1 g2
  unfold key
  generalize 2520 / f.2 = a at *
  generalize 2520 / g.2 = b at *
  have hab : 0 < a * b := Int.mul_pos cf cg
  have e1 : f.1 * g.2 * (a * b) = f.1 * a * (g.2 * b) := by ac_rfl
  have e2 : g.1 * f.2 * (a * b) = g.1 * b * (f.2 * a) := by ac_rfl
  rw [hg'] at e1
  rw [hf'] at e2
  constructor
  · intro h
    have := Int.mul_lt_mul_of_pos_right h hab
    omega
  · intro h
    have h2 : f.1 * g.2 * (a * b) < g.1 * f.2 * (a * b) := by omega
    exact Int.lt_of_mul_lt_mul_right h2 (Int.le_of_lt hab)
theorem le_iff {f g : Int × Int} (hf : okF f = true) (hg : okF g = true) : f.1 * g.2 ≤ g.1 * f.2 ↔ key f ≤ key g := by
  have := lt_iff hg hf
  constructor <;> intro h <;> omega
theorem cmp_key {f g : Int × Int} (hf : okF f = true) (hg : okF g = true) : cmpI (f.1 * g.2) (g.1 * f.2) = cmpI (key f) (key g) := by
  have h1 := lt_iff hf hg
  have h2 := lt_iff hg hf
  unfold cmpI
  by_cases a : f.1 * g.2 < g.1 * f.2
  · rw [if_pos a, if_pos (h1.1 a)]
  · rw [if_neg a, if_neg (fun h => a (h1.2 h))]
    by_cases b : g.1 * f.2 < f.1 * g.2
    · rw [if_pos b, if_pos (h2.1 b)]
    · rw [if_neg b, if_neg (fun h => b (h2.2 h))]
theorem prod_bd {x y : Int} (hx : 0 ≤ x ∧ x ≤ 1000) (hy : 1 ≤ y ∧ y ≤ 9) : 0 ≤ x * y ∧ x * y ≤ 100000 := term_bd hx (by omega)
/-- The order by weight for each. -/
def soL (L : List (Int × Int)) : List Int := nats (Rk.rank (keys L))
theorem soL_len (L : List (Int × Int)) : (soL L).length = L.length := by rw [soL, nats_len, Rk.rank_len, keys_len]
end Fm
set_option maxRecDepth 100000 in
set_option maxHeartbeats 2000000 in
theorem fless_any {W : World} {B b off c n i j : Nat} {x1 y1 x2 y2 : Int} (hi : i < n) (hj : j < n) (hB : W.cell? ⟨B, 0, none⟩ = some (.slice (some ⟨b, off, none⟩) n c))
    (h1 : W.cell? ⟨b, off + i * 2, none⟩ = some (.int .i64 x1)) (h2 : W.cell? ⟨b, off + i * 2 + 1, none⟩ = some (.int .i64 y1)) (h3 : W.cell? ⟨b, off + j * 2, none⟩ = some (.int .i64 x2)) (h4 : W.cell? ⟨b, off + j * 2 + 1, none⟩ = some (.int .i64 y2))
    (b1 : 0 ≤ x2 * y1 ∧ x2 * y1 ≤ 100000) (b2 : 0 ≤ x1 * y2 ∧ x1 * y2 ≤ 100000) :
    Calls Try.prog 51 #[.int .i64 i, .int .i64 j, .pointer (some ⟨B, 0, none⟩)] W fun e w' => e = .returned (.int .i64 (cmpI (x2 * y1) (x1 * y2))) ∧ ∃ q, w' = W.drewN q := by
  have i0 : (0 : Int) ≤ (i : Int) := by omega
  have i1 : (i : Int) < (n : Int) := by omega
  have j0 : (0 : Int) ≤ (j : Int) := by omega
  have j1 : (j : Int) < (n : Int) := by omega
  have p0 : IntKind.i64.wrap (x2 * y1) = x2 * y1 := by rw [IntKind.wrap_i64]; omega
  have p1 : IntKind.i64.wrap (x1 * y2) = x1 * y2 := by rw [IntKind.wrap_i64]; omega
  clear hi hj b1 b2
  go_enter Try.func51, Try.ntmps51
  go_wp2_with fail
  go_quiet ((go_at_call 39; exact Calls.quiet_of_same (compare_any _ _ _)))
  go_wp2_with fail
  go_ret
  exact ⟨rfl, _, rfl⟩
theorem fam_cmp {a : Option Addr} {B n c : Nat} {L : List (Int × Int)} {w : World} (hx : L.length = n) (hg : Fm.famB L = true) (hB : w.cell? ⟨B, 0, none⟩ = some (.slice a n c)) (hBl : B < w.heap.size) (ha : FRow w a L) :
    CmpBy 51 #[.pointer (some ⟨B, 0, none⟩)] (Fm.keys L) w.heap.size w := by
  intro W hW i j hi hj
  rw [Fm.keys_len] at hi hj
  obtain ⟨b, off, rfl, hb, hc⟩ : ∃ b off, a = some ⟨b, off, none⟩ ∧ b < w.heap.size ∧ ∀ i, i < L.length → w.cell? ⟨b, off + i * 2, none⟩ = some (.int .i64 (L.getD i (0, 0)).1) ∧ w.cell? ⟨b, off + i * 2 + 1, none⟩ = some (.int .i64 (L.getD i (0, 0)).2) := by
    rcases ha with h | h
    · rw [h] at hi; simp at hi
    · exact h
  have oi := Fm.famB_at hg hi
  have oj := Fm.famB_at hg hj
  have e := Fm.cmp_key oj oi
  rw [Fm.keys_val, Fm.keys_val, ← e]
  exact fless_any (by omega) (by omega) ((hW _ _ hBl (by omega)).trans hB) ((hW _ _ hb (by omega)).trans (hc i hi).1) ((hW _ _ hb (by omega)).trans (hc i hi).2) ((hW _ _ hb (by omega)).trans (hc j hj).1) ((hW _ _ hb (by omega)).trans (hc j hj).2)
    (Fm.prod_bd (Fm.okF_yes oj).1 (Fm.okF_yes oi).2) (Fm.prod_bd (Fm.okF_yes oi).1 (Fm.okF_yes oj).2)
theorem FRow.alloc {w : World} {a : Option Addr} {L : List (Int × Int)} (h : FRow w a L) (o : Obj) : FRow (w.alloc o) a L := h.below ((Below.refl _ _).alloc (Nat.le_refl _) _)
set_option maxRecDepth 100000 in
set_option maxHeartbeats 1000000 in
theorem so_no {a : Option Addr} {n c : Nat} {L : List (Int × Int)} {w : World} (HX : Hid (L.length = n)) (HA : Hid (FRow w a L)) (HG : Hid (Fm.famB L = false)) :
    Calls Try.prog 22 #[.slice a n c] w fun e w' => e = .returned (.tuple #[.slice none 0 0, .bool false]) ∧ Below w.heap.size w w' := by
  have HA1 := hide (HA.out.alloc (.cells #[.slice a n c] 41))
  have HBB := hide ((Below.refl w.heap.size w).alloc (Nat.le_refl _) (.cells #[.slice a n c] 41))
  go_enter Try.func22, Try.ntmps22
  go_wp2_with fail
  refine (af_eq HX HA1 HG).mono ?_
  rintro e w1 ⟨rfl, hb1⟩
  have HB1 := hide (HBB.out.trans (hb1.mono HBB.out.size))
  go_wp2_with fail
  go_ret2
  exact ⟨rfl, HB1.out⟩
set_option maxRecDepth 100000 in
set_option maxHeartbeats 2000000 in
theorem so_yes {a : Option Addr} {n c : Nat} {L : List (Int × Int)} {w : World} (HX : Hid (L.length = n)) (HA : Hid (FRow w a L)) (HG : Hid (Fm.famB L = true)) :
    Calls Try.prog 22 #[.slice a n c] w fun e w' => ∃ g, e = .returned (.tuple #[.slice (some ⟨g, 0, none⟩) n n, .bool true]) ∧ Below w.heap.size w w' ∧ w.heap.size ≤ g ∧ Ow w' g n (Fm.soL L) := by
  have hn : n ≤ 6 := by have := Fm.famB_len HG.out; have := HX.out; omega
  have HA1 := hide (HA.out.alloc (.cells #[.slice a n c] 41))
  have HBB := hide ((Below.refl w.heap.size w).alloc (Nat.le_refl _) (.cells #[.slice a n c] 41))
  have HC : Hid ((w.alloc (.cells #[.slice a n c] 41)).cell? ⟨w.heap.size, 0, none⟩ = some (.slice a n c) ∧ w.heap.size < (w.alloc (.cells #[.slice a n c] 41)).heap.size) := hide (by simp)
  go_enter Try.func22, Try.ntmps22
  go_wp2_with fail
  refine (af_eq HX HA1 HG).mono ?_
  rintro e w1 ⟨rfl, hb1⟩
  have HB1 := hide (HBB.out.trans (hb1.mono HBB.out.size))
  have c1 := (hb1.cell (p := ⟨w.heap.size, 0, none⟩) HC.out.2).trans HC.out.1
  have HZ := hide (Nat.lt_of_lt_of_le HC.out.2 hb1.size)
  have HS := hide (sn_any (n := n) (w := w1) (by rw [Fm.keys_len, HX.out]) (by omega) (enters_of Try.func51 (by kernel_rfl) rfl) (fam_cmp HX.out HG.out c1 HZ.out (HA1.out.below hb1)))
  clear HC HBB hb1 HA1
  go_wp2_with fail
  refine HS.out.mono ?_
  rintro e w2 ⟨rfl, hb2, own2⟩
  obtain ⟨O2, _⟩ := Ow.mk' own2
  have HO2 := hide O2
  have HB2 := hide (HB1.out.trans (hb2.mono HB1.out.size))
  clear own2 O2 hb2
  go_wp2_with fail
  go_ret2
  exact ⟨_, rfl, HB2.out, HB1.out.size, HO2.out⟩
theorem none_row7 (w : World) : (w.alloc (.cells #[] 3)).ownsRow w.heap.size 3 1 (.slice (some ⟨w.heap.size, 0, none⟩) 0 0) 0 (ints []) :=
  World.ownsRow_lit (base := w.heap.size) (e := 3) (size := 1) w #[] 0 (Nat.le_refl _) (by unfold maxLen; omega) (by simp)
/-- A number put between two parts of a list, by three appends. -/
theorem ins_run {W : World} {l : List Nat} {i k m kb ca cb : Nat} {pa pb : Option Addr} (hm : l.length = m) (hk : k ≤ m) (h10 : m ≤ 100) (hkb : kb = m - k) (h1 : VRow W pa (ints (nats (l.take k)))) (h2 : VRow W pb (ints (nats (l.drop k)))) :
    ∃ v1 w1 v2 w2 v3 w3, (∀ ty, (Builtin.append_ #[23, 23] ty #[.slice (some ⟨W.heap.size, 0, none⟩) 0 0, .slice pa k ca]).run Try.prog (W.alloc (.cells #[] 3)) = .ok v1 w1) ∧
      (∀ ty, (Builtin.append_ #[23, 23] ty #[v1, .slice (some ⟨w1.heap.size, 0, none⟩) 1 1]).run Try.prog (w1.alloc (.cells #[.int .i64 (i : Int)] 3)) = .ok v2 w2) ∧
      (∀ ty, (Builtin.append_ #[23, 23] ty #[v2, .slice pb kb cb]).run Try.prog w2 = .ok v3 w3) ∧
      w3.ownsRow W.heap.size 3 1 v3 (m + 1) (ints (nats (l.take k ++ i :: l.drop k))) ∧ Below W.heap.size W w3 := by
  obtain ⟨i0, hi, hz0, hz1, hz2⟩ := infoI
  have B0 := (Below.refl W.heap.size W).alloc (Nat.le_refl _) (.cells #[] 3)
  have hlt : (l.take k).length = k := by rw [List.length_take]; omega
  obtain ⟨v1, w1, r1, o1, g1⟩ := run_append_v (P := Try.prog) (W.alloc (.cells #[] 3)) W.heap.size 23 0 3 i0 _ 8 Try.underlying23 hi hz0 hz1 hz2 rfl _ 0 _ (none_row7 W) pa k ca (ints (nats (l.take k))) (by rw [ints_len, nats_len, hlt]) (h1.below B0) (c_ints _) (by unfold maxLen; omega) (by omega) (by simp)
  rw [Nat.zero_add] at o1
  have o1' : w1.ownsRow W.heap.size 3 1 v1 k (ints (nats (l.take k))) := o1
  have B1 : Below W.heap.size W w1 := B0.trans (grown_below' g1 (Nat.le_refl _) (by simp))
  obtain ⟨v2, w2, r2, o2, g2⟩ := push_int (x := (i : Int)) o1' (by omega) B1.size
  have B2 : Below W.heap.size W w2 := B1.trans (grown_under' g2 o1' (Nat.le_refl _) B1.size)
  obtain ⟨v3, w3, r3, o3, g3⟩ := run_append_v (P := Try.prog) w2 W.heap.size 23 0 3 i0 _ 8 Try.underlying23 hi hz0 hz1 hz2 rfl v2 (k + 1) _ o2 pb kb cb (ints (nats (l.drop k))) (by rw [ints_len, nats_len, List.length_drop, hm, hkb]) (h2.below B2) (c_ints _) (by unfold maxLen; omega) (by omega) B2.size
  refine ⟨v1, w1, v2, w2, v3, w3, fun _ => r1, r2, fun _ => r3, ?_, B2.trans (grown_under' g3 o2 (Nat.le_refl _) B2.size)⟩
  rw [show k + 1 + kb = m + 1 by omega] at o3
  rw [show ints (nats (l.take k ++ i :: l.drop k)) = ints (nats (l.take k)) ++ [Value.int .i64 (i : Int)] ++ ints (nats (l.drop k)) by simp [ints, nats]]
  exact o3
set_option maxRecDepth 100000 in
set_option maxHeartbeats 400000 in
theorem sso_no {a : Option Addr} {n c : Nat} {L : List (Int × Int)} {w : World} (hn : n ≤ 1048576) (HX : Hid (L.length = n)) (HA : Hid (FRow w a L)) (HG : Hid (Fm.famB L = false)) :
    Calls Try.prog 23 #[.slice a n c] w fun e w' => e = .returned (.tuple #[.slice none 0 0, .bool false]) ∧ Below w.heap.size w w' := by
  go_enter Try.func23, Try.ntmps23
  go_wp2_with fail
  refine (saf_eq HX hn HA HG).mono ?_
  rintro e w1 ⟨rfl, hb1⟩
  go_wp2_with fail
  go_ret2
  exact ⟨rfl, hb1⟩
theorem upto_nth_lt {vs : List Int} {m k : Nat} (hk : k < m) : (Rk.upto vs m).getD k 0 < m := by
  have hl : k < (Rk.upto vs m).length := by rw [Rk.upto_len]; exact hk
  rw [Pf.getD_lt _ 0 hl]
  exact Rk.upto_mem (List.getElem_mem hl)
theorem vrow_take {w : World} {g n cap base : Nat} {xs : List Int} (h : w.ownsRow base 3 1 (.slice (some ⟨g, 0, none⟩) n cap) n (ints xs)) (k : Nat) : VRow w (some ⟨g, 0, none⟩) (ints (xs.take k)) := by
  have hl : n = xs.length := by have := h.1; rw [ints_len] at this; omega
  exact ((arow_owns hl h).take k).vrow
theorem vrow_drop {w : World} {g n cap base : Nat} {xs : List Int} (h : w.ownsRow base 3 1 (.slice (some ⟨g, 0, none⟩) n cap) n (ints xs)) (k : Nat) : VRow w (some ⟨g, k, none⟩) (ints (xs.drop k)) := by
  have hl : n = xs.length := by have := h.1; rw [ints_len] at this; omega
  refine ARow.vrow ?_
  rcases arow_owns hl h with e | ⟨b, off, e, hb, hc⟩
  · left; rw [e]; simp
  · cases e
    refine Or.inr ⟨_, _, rfl, hb, fun i hi => ?_⟩
    rw [List.length_drop] at hi
    have := hc (k + i) (by omega)
    rw [Nat.zero_add] at this
    rw [this]
    simp
set_option maxRecDepth 100000 in
set_option maxHeartbeats 8000000 in
theorem sso_yes {a : Option Addr} {n c : Nat} {L : List (Int × Int)} {w : World} (HX : Hid (L.length = n)) (HA : Hid (FRow w a L)) (HG : Hid (Fm.famB L = true)) :
    Calls Try.prog 23 #[.slice a n c] w fun e w' => ∃ v, e = .returned (.tuple #[v, .bool true]) ∧ Below w.heap.size w w' ∧ w'.ownsRow w.heap.size 3 1 v n (ints (Fm.soL L)) := by
  have hn : n ≤ 6 := by have := Fm.famB_len HG.out; have := HX.out; omega
  go_enter Try.func23, Try.ntmps23
  go_wp2_with fail
  refine (saf_eq HX (by omega) HA HG).mono ?_
  rintro e w1 ⟨rfl, hb1⟩
  have HA1 := hide (HA.out.below hb1)
  go_wp2_with fail
  go_loopw [4, 5, 6, 7, 8, 14] (fun v _ _ _ _ s wr => ∃ (m : Nat), s = .int .i64 m ∧ m ≤ n ∧ wr.ownsRow w1.heap.size 3 1 v m (ints (nats (Rk.upto (Fm.keys L) m))) ∧ Below w1.heap.size w1 wr) (fun _ _ _ _ _ s _ => n - (intOf s).toNat)
  case atStart => exact ⟨0, rfl, Nat.zero_le _, World.ownsRow_nil _ _ _ _, Below.refl _ _⟩
  case round =>
    obtain ⟨m, rfl, hm, hown, hB⟩ := hrel
    by_cases hlt : m < n
    · obtain ⟨W0, hW0⟩ : ∃ W0, W0 = wr := ⟨_, rfl⟩
      subst hW0
      obtain ⟨b, off, rfl, hbl, r1, r2⟩ := (HA1.out.below hB).at (i := m) (by rw [HX.out]; exact hlt)
      have i0 : (0 : Int) ≤ (m : Int) := by omega
      have i1 : (m : Int) < (n : Int) := by omega
      have HOK := hide (Fm.famB_at HG.out (show m < L.length by rw [HX.out]; exact hlt))
      have HKEY := hide (Fm.keys_val L m)
      have HFR := hide (HA1.out.below hB)
      have HOWN := hide hown
      have HB0 := hide hB
      obtain ⟨ao, co, rfl⟩ := own_form hown
      generalize hf : L.getD m (0, 0) = f at *
      obtain ⟨x, y⟩ := f
      have HF := hide hf
      have HF0 : Hid ((W0.alloc (.cells #[.int .i64 x, .int .i64 y] 68)).cell? ⟨W0.heap.size, 0, none⟩ = some (.int .i64 x) ∧ (W0.alloc (.cells #[.int .i64 x, .int .i64 y] 68)).cell? ⟨W0.heap.size, 1, none⟩ = some (.int .i64 y)) := hide (by simp)
      have HFR1 := hide (HFR.out.below ((Below.refl W0.heap.size W0).alloc (Nat.le_refl _) (.cells #[.int .i64 x, .int .i64 y] 68)))
      have HOWN1 := hide (HOWN.out.alloc (.cells #[.int .i64 x, .int .i64 y] 68))
      have HB1 := hide (HB0.out.alloc HB0.out.size (.cells #[.int .i64 x, .int .i64 y] 68))
      clear hown hB hf HFR HOWN HB0
      go_wp2_with fail
      generalize hW1 : W0.alloc (.cells #[.int .i64 x, .int .i64 y] 68) = W1 at *
      generalize hF0 : W0.heap.size = F at *
      clear hW1 hF0 r1 r2 hbl
      obtain ⟨f0, f1⟩ := HF0.out
      go_loopw [7] (fun s wi => ∃ (k q : Nat), s = .int .i64 k ∧ k ≤ m ∧ Hid (∀ j, j < k → Rk.val (Fm.keys L) ((Rk.upto (Fm.keys L) m).getD j 0) ≥ Rk.val (Fm.keys L) m) ∧ wi = W1.drewN q) (fun s _ => m - (intOf s).toNat)
      case atStart => exact ⟨0, 0, rfl, Nat.zero_le _, hide fun j hj => absurd hj (Nat.not_lt_zero _), rfl⟩
      case round =>
        obtain ⟨k, q, rfl, hk, HK, rfl⟩ := hrel
        by_cases hkm : k < m
        · rcases HOWN1.out.2 with ⟨_, h0⟩ | ⟨g, cap, cur, e, hg1, _⟩
          · omega
          · cases e
            have k0 : (0 : Int) ≤ (k : Int) := by omega
            have k1 : (k : Int) < (m : Int) := by omega
            have r3 : W1.cell? ⟨g, k, none⟩ = some (.int .i64 (((Rk.upto (Fm.keys L) m).getD k 0 : Nat) : Int)) := by
              rw [HOWN1.out.cellAt k (by omega), ints_get _ k (by rw [nats_len, Rk.upto_len]; exact hkm), nats_get]
            have hjm := upto_nth_lt (vs := Fm.keys L) hkm
            obtain ⟨b', off', e', _, r4, r5⟩ := HFR1.out.at (i := (Rk.upto (Fm.keys L) m).getD k 0) (by rw [HX.out]; omega)
            cases e'
            have okj := Fm.famB_at HG.out (show (Rk.upto (Fm.keys L) m).getD k 0 < L.length by rw [HX.out]; omega)
            have kvj := Fm.keys_val L ((Rk.upto (Fm.keys L) m).getD k 0)
            have HKJ : Hid (∀ z, Rk.val (Fm.keys L) ((Rk.upto (Fm.keys L) m).getD k 0) = z → Rk.val (Fm.keys L) ((Rk.upto (Fm.keys L) m).getD k 0) = z) := hide fun z h => h
            generalize hgj : L.getD ((Rk.upto (Fm.keys L) m).getD k 0) (0, 0) = fj at *
            obtain ⟨xj, yj⟩ := fj
            have hle := Fm.le_iff HOK.out okj
            have b1 := Fm.prod_bd (Fm.okF_yes okj).1 (Fm.okF_yes HOK.out).2
            have b2 := Fm.prod_bd (Fm.okF_yes HOK.out).1 (Fm.okF_yes okj).2
            rw [← kvj, ← HKEY.out] at hle
            simp only at hle b1 b2
            have HLE := hide hle
            have p0 : IntKind.i64.wrap (xj * y) = xj * y := by rw [IntKind.wrap_i64]; omega
            have p1 : IntKind.i64.wrap (x * yj) = x * yj := by rw [IntKind.wrap_i64]; omega
            generalize hj : (Rk.upto (Fm.keys L) m).getD k 0 = j at *
            have j0 : (0 : Int) ≤ (j : Int) := by omega
            have j1 : (j : Int) < (n : Int) := by omega
            have HJ := hide hj
            clear hle b1 b2 okj kvj hgj HKJ hj
            by_cases ht : x * yj ≤ xj * y
            · have ht' : decide (x * yj ≤ xj * y) = true := by simpa using ht
              have HK2 : Hid (∀ i, i < k + 1 → Rk.val (Fm.keys L) ((Rk.upto (Fm.keys L) m).getD i 0) ≥ Rk.val (Fm.keys L) m) := hide fun i hi => by
                by_cases e : i = k
                · subst e; rw [HJ.out]; exact HLE.out.1 ht
                · exact HK.out i (by omega)
              clear ht
              go_wp2_with fail
              go_quiet (fail)
              go_wp2_with fail
              go_roundw
              case rel => exact ⟨k + 1, q + nq, by go_num, by omega, HK2, rfl⟩
              case measure => simp only [intOf]; omega
            · have ht' : decide (x * yj ≤ xj * y) = false := by simpa using ht
              have HINS : Hid (Rk.upto (Fm.keys L) (m + 1) = (Rk.upto (Fm.keys L) m).take k ++ m :: (Rk.upto (Fm.keys L) m).drop k) := hide (Rk.insL_at (Fm.keys L) m (Rk.upto (Fm.keys L) m) k (by rw [Rk.upto_len]; exact hk) HK.out (fun _ => by
                rw [HJ.out]
                have := HLE.out
                omega))
              have hcap : m ≤ co := by
                rcases HOWN1.out.2 with ⟨e, _⟩ | ⟨g', cap', cur', e, _, _, hc, _⟩
                · cases e
                · cases e; exact hc
              have c1 : (k : Int) ≤ (co : Int) := by omega
              have c2 : (k : Int) ≤ (m : Int) := by omega
              have c3 : ¬ co = k := by omega
              clear ht
              go_wp2_with fail
              go_quiet (fail)
              have HOW2 : Hid (((W1.drewN q).drewN nq).ownsRow w1.heap.size 3 1 _ m (ints (nats (Rk.upto (Fm.keys L) m)))) := HOWN1
              have HBW2 : Hid (Below w1.heap.size w1 ((W1.drewN q).drewN nq)) := hide (below_drewN (below_drewN HB1.out q) nq)
              generalize (W1.drewN q).drewN nq = W2 at *
              obtain ⟨v1, u1, v2, u2, v3, u3, q1, q2, q3, own3, hb3⟩ := ins_run (W := W2) (l := Rk.upto (Fm.keys L) m) (i := m) (k := k) (m := m) (kb := m - k) (ca := co) (cb := co - k) (pa := some ⟨g, 0, none⟩) (pb := some ⟨g, k, none⟩) (Rk.upto_len _ _) (by omega) (by omega) (by omega) (by rw [← nats_take]; exact vrow_take HOW2.out k) (by rw [← nats_drop]; exact vrow_drop HOW2.out k)
              rw [← HINS.out] at own3
              have HO3 := hide own3
              have HB3 := hide (HBW2.out.trans (hb3.mono HBW2.out.size))
              have HZ3 := hide HBW2.out.size
              clear own3 hb3 HOW2 HBW2
              go_upto_region 11 with (at_builtin; refine Lib.wpList_append_run _ rfl _ _ _ _ rfl _ _ rfl rfl _ _ (q1 _) ?_)
              clear q1
              go_upto_region 12 with (at_builtin; refine Lib.wpList_append_run _ rfl _ _ _ _ rfl _ _ rfl rfl _ _ (q2 _) ?_)
              clear q2
              go_wp2_with (at_builtin; refine Lib.wpList_append_run _ rfl _ _ _ _ rfl _ _ rfl rfl _ _ (q3 _) ?_)
              go_roundw
              case rel => exact ⟨m + 1, by go_num, by omega, owns_base HO3.out HZ3.out, HB3.out⟩
              case measure => simp only [intOf]; omega
        · have hke : k = m := by omega
          subst hke
          have HINS : Hid (Rk.upto (Fm.keys L) (k + 1) = (Rk.upto (Fm.keys L) k).take k ++ k :: (Rk.upto (Fm.keys L) k).drop k) := hide (Rk.insL_at (Fm.keys L) k (Rk.upto (Fm.keys L) k) k (by rw [Rk.upto_len]; exact hk) HK.out (fun h => by rw [Rk.upto_len] at h; omega))
          have hkk : ¬ (k : Int) < (k : Int) := by omega
          have c0 : (0 : Int) ≤ (k : Int) := by omega
          have c2 : (k : Int) ≤ (k : Int) := by omega
          rcases HOWN1.out.2 with ⟨e, _⟩ | ⟨g, cap, cur, e, hg1, hg2, hcap, hml, _⟩
          · cases e
            go_wp2_with fail
            go_quiet (fail)
            have HOW2 : Hid (((W1.drewN q).drewN nq).ownsRow w1.heap.size 3 1 _ 0 (ints (nats (Rk.upto (Fm.keys L) 0)))) := HOWN1
            have HBW2 : Hid (Below w1.heap.size w1 ((W1.drewN q).drewN nq)) := hide (below_drewN (below_drewN HB1.out q) nq)
            generalize (W1.drewN q).drewN nq = W2 at *
            obtain ⟨v1, u1, v2, u2, v3, u3, q1, q2, q3, own3, hb3⟩ := ins_run (W := W2) (l := Rk.upto (Fm.keys L) 0) (i := 0) (k := 0) (m := 0) (kb := 0) (ca := 0) (cb := 0) (pa := none) (pb := none) (Rk.upto_len _ _) (by omega) (by omega) (by omega) (Or.inl (by simp [ints, nats])) (Or.inl (by simp [ints, nats, Rk.upto]))
            rw [← HINS.out] at own3
            have HO3 := hide own3
            have HB3 := hide (HBW2.out.trans (hb3.mono HBW2.out.size))
            have HZ3 := hide HBW2.out.size
            clear own3 hb3 HOW2 HBW2
            go_upto_region 11 with (at_builtin; refine Lib.wpList_append_run _ rfl _ _ _ _ rfl _ _ rfl rfl _ _ (q1 _) ?_)
            clear q1
            go_upto_region 12 with (at_builtin; refine Lib.wpList_append_run _ rfl _ _ _ _ rfl _ _ rfl rfl _ _ (q2 _) ?_)
            clear q2
            go_wp2_with (at_builtin; refine Lib.wpList_append_run _ rfl _ _ _ _ rfl _ _ rfl rfl _ _ (q3 _) ?_)
            go_roundw
            case rel => exact ⟨0 + 1, by go_num, by omega, owns_base HO3.out HZ3.out, HB3.out⟩
            case measure => simp only [intOf]; omega
          · cases e
            have c1 : (k : Int) ≤ (co : Int) := by omega
            by_cases hce : co = k
            · subst hce
              go_wp2_with fail
              go_quiet (fail)
              have HOW2 : Hid (((W1.drewN q).drewN nq).ownsRow w1.heap.size 3 1 _ co (ints (nats (Rk.upto (Fm.keys L) co)))) := HOWN1
              have HBW2 : Hid (Below w1.heap.size w1 ((W1.drewN q).drewN nq)) := hide (below_drewN (below_drewN HB1.out q) nq)
              generalize (W1.drewN q).drewN nq = W2 at *
              obtain ⟨v1, u1, v2, u2, v3, u3, q1, q2, q3, own3, hb3⟩ := ins_run (W := W2) (l := Rk.upto (Fm.keys L) co) (i := co) (k := co) (m := co) (kb := 0) (ca := co) (cb := 0) (pa := some ⟨g, 0, none⟩) (pb := some ⟨g, 0, none⟩) (Rk.upto_len _ _) (by omega) (by omega) (by omega) (by rw [← nats_take]; exact vrow_take HOW2.out co) (Or.inl (by rw [List.drop_of_length_le (by rw [Rk.upto_len]; exact Nat.le_refl _)]; rfl))
              rw [← HINS.out] at own3
              have HO3 := hide own3
              have HB3 := hide (HBW2.out.trans (hb3.mono HBW2.out.size))
              have HZ3 := hide HBW2.out.size
              clear own3 hb3 HOW2 HBW2
              go_upto_region 11 with (at_builtin; refine Lib.wpList_append_run _ rfl _ _ _ _ rfl _ _ rfl rfl _ _ (q1 _) ?_)
              clear q1
              go_upto_region 12 with (at_builtin; refine Lib.wpList_append_run _ rfl _ _ _ _ rfl _ _ rfl rfl _ _ (q2 _) ?_)
              clear q2
              go_wp2_with (at_builtin; refine Lib.wpList_append_run _ rfl _ _ _ _ rfl _ _ rfl rfl _ _ (q3 _) ?_)
              go_roundw
              case rel => exact ⟨co + 1, by go_num, by omega, owns_base HO3.out HZ3.out, HB3.out⟩
              case measure => simp only [intOf]; omega
            · have c3 : ¬ co - k = 0 := by omega
              go_wp2_with fail
              go_quiet (fail)
              have HOW2 : Hid (((W1.drewN q).drewN nq).ownsRow w1.heap.size 3 1 _ k (ints (nats (Rk.upto (Fm.keys L) k)))) := HOWN1
              have HBW2 : Hid (Below w1.heap.size w1 ((W1.drewN q).drewN nq)) := hide (below_drewN (below_drewN HB1.out q) nq)
              generalize (W1.drewN q).drewN nq = W2 at *
              obtain ⟨v1, u1, v2, u2, v3, u3, q1, q2, q3, own3, hb3⟩ := ins_run (W := W2) (l := Rk.upto (Fm.keys L) k) (i := k) (k := k) (m := k) (kb := 0) (ca := co) (cb := co - k) (pa := some ⟨g, 0, none⟩) (pb := some ⟨g, k, none⟩) (Rk.upto_len _ _) (by omega) (by omega) (by omega) (by rw [← nats_take]; exact vrow_take HOW2.out k) (by rw [← nats_drop]; exact vrow_drop HOW2.out k)
              rw [← HINS.out] at own3
              have HO3 := hide own3
              have HB3 := hide (HBW2.out.trans (hb3.mono HBW2.out.size))
              have HZ3 := hide HBW2.out.size
              clear own3 hb3 HOW2 HBW2
              go_upto_region 11 with (at_builtin; refine Lib.wpList_append_run _ rfl _ _ _ _ rfl _ _ rfl rfl _ _ (q1 _) ?_)
              clear q1
              go_upto_region 12 with (at_builtin; refine Lib.wpList_append_run _ rfl _ _ _ _ rfl _ _ rfl rfl _ _ (q2 _) ?_)
              clear q2
              go_wp2_with (at_builtin; refine Lib.wpList_append_run _ rfl _ _ _ _ rfl _ _ rfl rfl _ _ (q3 _) ?_)
              go_roundw
              case rel => exact ⟨k + 1, by go_num, by omega, owns_base HO3.out HZ3.out, HB3.out⟩
              case measure => simp only [intOf]; omega
    · have hke : m = n := by omega
      subst hke
      have HO : Hid (wr.ownsRow w1.heap.size 3 1 _ m (ints (Fm.soL L))) := hide (by
        have := hown
        rw [show Rk.upto (Fm.keys L) m = Rk.rank (Fm.keys L) by rw [Rk.rank, Fm.keys_len, HX.out]] at this
        exact this)
      have HBF := hide (hb1.trans (hB.mono hb1.size))
      have HZ := hide hb1.size
      clear hown hB hb1
      go_wp2_with fail
      go_ret2
      exact ⟨_, rfl, HBF.out, owns_base HO.out HZ.out⟩
theorem sso_r {a : Option Addr} {n c : Nat} {L : List (Int × Int)} {w : World} (HX : Hid (L.length = n)) (HA : Hid (FRow w a L)) (HG : Hid (Fm.famB L = true)) :
    Calls Try.prog 23 #[.slice a n c] w fun e w' => ∃ v cv, e = .returned (.tuple #[.slice v n cv, .bool true]) ∧ Below w.heap.size w w' ∧ ARow w' v (Fm.soL L) :=
  (sso_yes HX HA HG).mono fun _ _ ⟨v, he, hb, o⟩ => by
    obtain ⟨a', c', rfl, hr⟩ := own_any7 ((Fm.soL_len _).trans HX.out) o
    exact ⟨_, _, he, hb, hr⟩
end Go.Proofs.Ythhahfcdnpegfaa
