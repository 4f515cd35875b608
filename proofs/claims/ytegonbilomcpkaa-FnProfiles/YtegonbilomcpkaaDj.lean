/-
  What the Draw functions of chapter 3 hand out: some profile, some number.
-/
import Derived.Test.YtegonbilomcpkaaDi
namespace Go.Proofs.Ytegonbilomcpkaa
open Go.RowKit

/-- Some profile, wherever its lists lie; nothing that was there is written. -/
def DProf (w : World) (e : Ending) (w' : World) : Prop :=
  ∃ (a b : Option Addr) (c d : Nat) (ps fs : List Int), e = .returned (.agg #[.slice a ps.length c, .slice b fs.length d]) ∧ ps.length ≤ 13 ∧ fs.length ≤ 13 ∧ w'.ownsRow w.heap.size 3 1 (.slice a ps.length c) ps.length (ints ps) ∧ w'.ownsRow w.heap.size 3 1 (.slice b fs.length d) fs.length (ints fs) ∧ Below w.heap.size w w'
/-- Some profile and some number. -/
def DProfN (w : World) (e : Ending) (w' : World) : Prop :=
  ∃ (a b : Option Addr) (c d : Nat) (ps fs : List Int) (k : Int), e = .returned (.tuple #[.agg #[.slice a ps.length c, .slice b fs.length d], .int .i64 k]) ∧ ps.length ≤ 13 ∧ fs.length ≤ 13 ∧ w'.ownsRow w.heap.size 3 1 (.slice a ps.length c) ps.length (ints ps) ∧ w'.ownsRow w.heap.size 3 1 (.slice b fs.length d) fs.length (ints fs) ∧ Below w.heap.size w w'
/-- The profile laid into the result's variable R, all else as it was. -/
theorem fin_draw {w w1 : World} {B n m : Nat} {v1 v2 : Value} {ps fs : List Int} (o1 : w1.ownsRow B 3 1 v1 n (ints ps)) (o2 : w1.ownsRow B 3 1 v2 m (ints fs)) (hB : w.heap.size < B) (hb : Below w.heap.size w w1) (u1 u2 : Value) :
    ((w1.setCell ⟨w.heap.size, 0, none⟩ u1).setCell ⟨w.heap.size, 1, none⟩ u2).ownsRow w.heap.size 3 1 v1 n (ints ps) ∧ ((w1.setCell ⟨w.heap.size, 0, none⟩ u1).setCell ⟨w.heap.size, 1, none⟩ u2).ownsRow w.heap.size 3 1 v2 m (ints fs) ∧ Below w.heap.size w ((w1.setCell ⟨w.heap.size, 0, none⟩ u1).setCell ⟨w.heap.size, 1, none⟩ u2) :=
  ⟨own_baseG (own_setlow (own_setlow o1 hB) hB) (Nat.le_of_lt hB), own_baseG (own_setlow (own_setlow o2 hB) hB) (Nat.le_of_lt hB), (hb.setCell (Nat.le_refl _) _).setCell (Nat.le_refl _) _⟩
theorem dprof {w w' : World} {n m c d : Nat} {a b : Option Addr} {ps fs : List Int} (hn : ps.length = n) (hm : fs.length = m) (h1 : n ≤ 13) (h2 : m ≤ 13) (h : w'.ownsRow w.heap.size 3 1 (.slice a n c) n (ints ps) ∧ w'.ownsRow w.heap.size 3 1 (.slice b m d) m (ints fs) ∧ Below w.heap.size w w') : DProf w (.returned (.agg #[.slice a n c, .slice b m d])) w' := by
  subst hn hm
  exact ⟨a, b, c, d, ps, fs, rfl, h1, h2, h.1, h.2.1, h.2.2⟩
theorem dprofN {w w' : World} {n m c d : Nat} {a b : Option Addr} {ps fs : List Int} {k : Int} (hn : ps.length = n) (hm : fs.length = m) (h1 : n ≤ 13) (h2 : m ≤ 13) (h : w'.ownsRow w.heap.size 3 1 (.slice a n c) n (ints ps) ∧ w'.ownsRow w.heap.size 3 1 (.slice b m d) m (ints fs) ∧ Below w.heap.size w w') : DProfN w (.returned (.tuple #[.agg #[.slice a n c, .slice b m d], .int .i64 k])) w' := by
  subst hn hm
  exact ⟨a, b, c, d, ps, fs, k, rfl, h1, h2, h.1, h.2.1, h.2.2⟩
/-- The world in which a Draw function's cursor stands, with the result's variable. -/
structure DIn (w W : World) (a : Option Addr) (len cap : Nat) : Prop where
  cur : Cur W (w.heap.size + 1) a len cap 0
  c0 : W.cell? ⟨w.heap.size, 0, none⟩ = some (.slice none 0 0)
  c1 : W.cell? ⟨w.heap.size, 1, none⟩ = some (.slice none 0 0)
  f0 : W.frozen? ⟨w.heap.size, 0, none⟩ = false
  f1 : W.frozen? ⟨w.heap.size, 1, none⟩ = false
  lt : w.heap.size < W.heap.size
  kp : ∀ w', Kp (w.heap.size + 1) W w' → Below w.heap.size w w'
theorem din_new {w : World} {a : Option Addr} {len cap : Nat} (hs : Src w a len) :
    DIn w ((w.alloc (.cells #[.slice none 0 0, .slice none 0 0] 29)).alloc (.cells #[.slice a len cap, .int .i64 0, .int .u64 0] 60)) a len cap := by
  have h := cur_new (cap := cap) (hs.below (below_alloc w (.cells #[.slice none 0 0, .slice none 0 0] 29)))
  rw [asize] at h
  have hb := below_alloc (w.alloc (.cells #[.slice none 0 0, .slice none 0 0] 29)) (.cells #[.slice a len cap, .int .i64 0, .int .u64 0] 60)
  have hl : w.heap.size < (w.alloc (.cells #[.slice none 0 0, .slice none 0 0] 29)).heap.size := by simp
  refine ⟨h, (hb.cell (p := ⟨w.heap.size, 0, none⟩) hl).trans (by simp), (hb.cell (p := ⟨w.heap.size, 1, none⟩) hl).trans (by simp), (hb.frozen (p := ⟨w.heap.size, 0, none⟩) hl).trans (by simp [go_sem]), (hb.frozen (p := ⟨w.heap.size, 1, none⟩) hl).trans (by simp [go_sem]), by simp; omega, fun w' hk => ?_⟩
  exact (((Below.refl _ _).alloc (Nat.le_refl _) _).alloc (by simp) _).trans (hk.below (by omega) (by simp; omega))
set_option maxRecDepth 100000 in
set_option maxHeartbeats 1000000 in
theorem drawGP_any {a : Option Addr} {len cap : Nat} {w : World} (hs : Hid (Src w a len)) :
    Calls Try.prog 48 #[.slice a len cap] w (DProf w) := by
  have HD := hide (din_new (cap := cap) hs.out)
  go_enter Try.func48, Try.ntmps48
  go_wp2_with fail
  generalize (w.alloc (.cells #[.slice none 0 0, .slice none 0 0] 29)).alloc (.cells #[.slice a len cap, .int .i64 0, .int .u64 0] 60) = W at *
  refine (drawP_any HD.out.cur (by omega)).mono ?_
  rintro e w1 ⟨vv1, vv2, ps, fs, rfl, hp, hf, o1, o2, hc1, hk1⟩
  obtain ⟨a1, c1, rfl⟩ := own_shG o1
  obtain ⟨a2, c2, rfl⟩ := own_shG o2
  have x0 := (hk1.cell (o := 0) HD.out.lt (by omega)).trans HD.out.c0
  have x1 := (hk1.cell (o := 1) HD.out.lt (by omega)).trans HD.out.c1
  have x2 := (hk1.frozen (o := 0) HD.out.lt (by omega)).trans HD.out.f0
  have x3 := (hk1.frozen (o := 1) HD.out.lt (by omega)).trans HD.out.f1
  have FIN := hide (fin_draw o1 o2 HD.out.lt (HD.out.kp _ hk1) (.slice a1 ps.length c1) (.slice a2 fs.length c2))
  clear o1 o2 hc1 hk1
  generalize hn : ps.length = n at *
  generalize hm : fs.length = m at *
  have HN := hide hn
  have HM := hide hm
  clear hn hm
  go_wp2_with fail
  exact bodyPost_ret (v := .agg #[.slice a1 n c1, .slice a2 m c2]) (by simp [results, Try.results48, go_sem, *]) rfl (dprof HN.out HM.out hp hf FIN.out)
set_option maxRecDepth 100000 in
set_option maxHeartbeats 1000000 in
theorem drawCl_any {a : Option Addr} {len cap : Nat} {w : World} (hs : Hid (Src w a len)) :
    Calls Try.prog 21 #[.slice a len cap] w (DProf w) := by
  have hl : w.heap.size < (w.alloc (.cells #[.slice none 0 0, .slice none 0 0] 29)).heap.size := by simp
  go_enter Try.func21, Try.ntmps21
  go_wp2_with fail
  refine (drawGP_any (hide (hs.out.below (below_alloc w _)))).mono ?_
  rintro e w1 ⟨a1, a2, c1, c2, ps, fs, rfl, hp, hf, o1, o2, hb⟩
  have x0 : w1.cell? ⟨w.heap.size, 0, none⟩ = some (.slice none 0 0) := (hb.cell (p := ⟨w.heap.size, 0, none⟩) hl).trans (by simp)
  have x1 : w1.cell? ⟨w.heap.size, 1, none⟩ = some (.slice none 0 0) := (hb.cell (p := ⟨w.heap.size, 1, none⟩) hl).trans (by simp)
  have x2 : w1.frozen? ⟨w.heap.size, 0, none⟩ = false := (hb.frozen (p := ⟨w.heap.size, 0, none⟩) hl).trans (by simp [go_sem])
  have x3 : w1.frozen? ⟨w.heap.size, 1, none⟩ = false := (hb.frozen (p := ⟨w.heap.size, 1, none⟩) hl).trans (by simp [go_sem])
  have FIN := hide (fin_draw o1 o2 hl ((below_alloc w _).trans (hb.mono (Nat.le_of_lt hl))) (.slice a1 ps.length c1) (.slice a2 fs.length c2))
  clear o1 o2 hb hl
  generalize hn : ps.length = n at *
  generalize hm : fs.length = m at *
  have HN := hide hn
  have HM := hide hm
  clear hn hm
  go_wp2_with fail
  exact bodyPost_ret (v := .agg #[.slice a1 n c1, .slice a2 m c2]) (by simp [results, Try.results21, go_sem, *]) rfl (dprof HN.out HM.out hp hf FIN.out)
set_option maxRecDepth 100000 in
set_option maxHeartbeats 1000000 in
theorem drawSO_any {a : Option Addr} {len cap : Nat} {w : World} (hs : Hid (Src w a len)) :
    Calls Try.prog 30 #[.slice a len cap] w (DProfN w) := by
  have HD := hide (din_new (cap := cap) hs.out)
  go_enter Try.func30, Try.ntmps30
  go_wp2_with fail
  generalize (w.alloc (.cells #[.slice none 0 0, .slice none 0 0] 29)).alloc (.cells #[.slice a len cap, .int .i64 0, .int .u64 0] 60) = W at *
  refine (drawP_any HD.out.cur (by omega)).mono ?_
  rintro e w1 ⟨vv1, vv2, ps, fs, rfl, hp, hf, o1, o2, hc1, hk1⟩
  obtain ⟨a1, c1, rfl⟩ := own_shG o1
  obtain ⟨a2, c2, rfl⟩ := own_shG o2
  have hWc := HD.out.cur.1
  have O1 := hide o1
  have O2 := hide o2
  have HC1 := hide hc1
  have HK1 := hide hk1
  clear o1 o2 hc1 hk1
  generalize hn : ps.length = n at *
  generalize hm : fs.length = m at *
  have HN := hide hn
  have HM := hide hm
  clear hn hm
  go_upto_region 3 with fail
  have bn := below_alloc w1 (.cells #[.slice a1 n c1, .slice a2 m c2] 29)
  have P0 : (w1.alloc (.cells #[.slice a1 n c1, .slice a2 m c2] 29)).cell? ⟨w1.heap.size, 0, none⟩ = some (.slice a1 n c1) := by simp
  have P1 : (w1.alloc (.cells #[.slice a1 n c1, .slice a2 m c2] 29)).cell? ⟨w1.heap.size, 1, none⟩ = some (.slice a2 m c2) := by simp
  have P2 : w1.heap.size < (w1.alloc (.cells #[.slice a1 n c1, .slice a2 m c2] 29)).heap.size := by simp
  have O1' := hide (O1.out.alloc (.cells #[.slice a1 n c1, .slice a2 m c2] 29))
  have O2' := hide (O2.out.alloc (.cells #[.slice a1 n c1, .slice a2 m c2] 29))
  have HC2 := hide (HC1.out.below bn)
  have HK2 := hide (HK1.out.alloc (.cells #[.slice a1 n c1, .slice a2 m c2] 29))
  have z1 := HK1.out.size
  clear O1 O2 HC1 HK1 bn
  generalize w1.alloc (.cells #[.slice a1 n c1, .slice a2 m c2] 29) = w2 at *
  generalize w1.heap.size = P at *
  have HCD : Hid (Cur w2.drew (w.heap.size + 1) a len cap 800) := hide ((HC2.out.le (by omega)).blocks (w' := w2.drew) (Nat.le_refl _) rfl (fun _ _ _ _ => rfl))
  have hRP : w.heap.size ≠ P := by have := HD.out.lt; omega
  have hPc : P ≠ w.heap.size + 1 := by omega
  have hlt := HD.out.lt
  have e0 : IntKind.i64.wrap ((n : Int) + 3) = (n : Int) + 3 := by rw [IntKind.wrap_i64]; omega
  have e0' : wrap64 ((n : Int) + 3) = (n : Int) + 3 := wrap_id' _ (by omega) (by omega)
  go_region_held3 (fun w' => w'.cell? ⟨P, 0, none⟩ = some (.slice a1 n c1) ∧ w'.cell? ⟨P, 1, none⟩ = some (.slice a2 m c2))
    (first | exact ⟨P0, P1⟩ | assumption | exact ⟨(set_ne hRP).trans ((set_ne hRP).trans hS.1), (set_ne hRP).trans ((set_ne hRP).trans hS.2)⟩ | fail)
    (first
    | (go_at_call 45; refine (pick_any ((n : Int) + 3) (by omega) HCD.out (by omega)).mono ?_; rintro e w3 ⟨z, rfl, z0, zz, hc3, hk3⟩; have hk3' : Kp (w.heap.size + 1) w2 w3 := ⟨hk3.os, hk3.tape, hk3.output, hk3.size, hk3.block⟩; have hS : w3.cell? ⟨P, 0, none⟩ = some (.slice a1 n c1) ∧ w3.cell? ⟨P, 1, none⟩ = some (.slice a2 m c2) := ⟨(hk3'.cell P2 hPc).trans P0, (hk3'.cell P2 hPc).trans P1⟩; have HK3 := hide (HK2.out.trans hk3'); have x0 := (HK3.out.cell (o := 0) hlt (by omega)).trans HD.out.c0; have x1 := (HK3.out.cell (o := 1) hlt (by omega)).trans HD.out.c1; have x2 := (HK3.out.frozen (o := 0) hlt (by omega)).trans HD.out.f0; have x3 := (HK3.out.frozen (o := 1) hlt (by omega)).trans HD.out.f1; have e1 : IntKind.i64.wrap (z - 1) = z - 1 := (by rw [IntKind.wrap_i64]; omega); have e2 : wrap64 (z - 1) = z - 1 := wrap_id' _ (by omega) (by omega); have FIN := hide (fin_draw (own_kp O1'.out hk3' hWc) (own_kp O2'.out hk3' hWc) hlt (HD.out.kp _ HK3.out) (.slice a1 n c1) (.slice a2 m c2)); clear hk3 hk3' hc3)
    | fail)
  all_goals
    go_wp2_with fail
    exact bodyPost_ret (v := .tuple #[.agg #[.slice a1 n c1, .slice a2 m c2], .int .i64 (z - 1)]) (by simp [results, Try.results30, go_sem, *]) rfl (dprofN HN.out HM.out hp hf FIN.out)
end Go.Proofs.Ytegonbilomcpkaa
