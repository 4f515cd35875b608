/-
  FnProfiles: ProfileOf in one word, sameProfile, and the Draw functions.
-/
import Derived.Test.YtegonbilomcpkaaIa
import Derived.Test.YtegonbilomcpkaaNd
import Derived.Test.YtegonbilomcpkaaDj
import Derived.Test.YtegonbilomcpkaaLn
namespace Go.Proofs.Ytegonbilomcpkaa
open Go.RowKit

def prB (gs : List Gd) (ls : List (Int × Int)) : Bool := goodsB gs && linesB gs.length ls
def prP (gs : List Gd) (ls : List (Int × Int)) : List Int := if prB gs ls then Pr.PP ls gs.length else []
def prF (gs : List Gd) (ls : List (Int × Int)) : List Int := if prB gs ls then Pr.FF gs ls gs.length else []
theorem prB_yes {gs : List Gd} {ls : List (Int × Int)} (h : prB gs ls = true) : goodsB gs = true ∧ linesB gs.length ls = true := by simpa [prB] using h
theorem pr_len (gs : List Gd) (ls : List (Int × Int)) : (prP gs ls).length ≤ 13 ∧ (prF gs ls).length = (prP gs ls).length := by
  unfold prP prF
  cases h : prB gs ls
  · simp
  · have := goodsB_len (prB_yes h).1
    exact ⟨by rw [if_pos rfl, Pr.PP_len]; omega, by rw [if_pos rfl, if_pos rfl, Pr.PP_len, Pr.FF_len]⟩
def POut (P F : List Int) (ok : Bool) (w : World) (e : Ending) (w' : World) : Prop :=
  ∃ a1 c1 a2 c2, e = .returned (.tuple #[.agg #[.slice a1 P.length c1, .slice a2 F.length c2], .bool ok]) ∧ ARow w' a1 P ∧ ARow w' a2 F ∧ Below w.heap.size w w'
theorem po_q {a a' : Option Addr} {n c n' c' : Nat} {gs : List Gd} {ls : List (Int × Int)} {w : World} (hn : gs.length = n) (hc : n ≤ c) (hs : Short gs) (h : GRow w a gs) (hn' : ls.length = n') (h' : LRow w a' ls) :
    Calls Try.prog 6 #[.slice a n c, .slice a' n' c'] w (POut (prP gs ls) (prF gs ls) (prB gs ls) w) := by
  subst hn
  cases hg : goodsB gs
  · have e : prB gs ls = false := by simp [prB, hg]
    have e1 : prP gs ls = [] := by simp [prP, e]
    have e2 : prF gs ls = [] := by simp [prF, e]
    rw [e, e1, e2]
    exact (po_bad1 rfl hc hs h hg).mono fun e w' ⟨he, hb⟩ => ⟨none, 0, none, 0, he, Or.inl rfl, Or.inl rfl, hb⟩
  · cases hl : linesB gs.length ls
    · have e : prB gs ls = false := by simp [prB, hl]
      have e1 : prP gs ls = [] := by simp [prP, e]
      have e2 : prF gs ls = [] := by simp [prF, e]
      rw [e, e1, e2]
      exact (po_bad2 rfl hc hs h hg hn' h' hl).mono fun e w' ⟨he, hb⟩ => ⟨none, 0, none, 0, he, Or.inl rfl, Or.inl rfl, hb⟩
    · have e : prB gs ls = true := by simp [prB, hg, hl]
      have e1 : prP gs ls = Pr.PP ls gs.length := by simp [prP, e]
      have e2 : prF gs ls = Pr.FF gs ls gs.length := by simp [prF, e]
      have ea := Pr.asked_PP hg rfl hl hn'
      rw [e, e1, e2]
      refine (po_good rfl hc hs h hg hn' h' hl).mono fun e w' ⟨hb, x, y, he, _, o1, o2⟩ => ?_
      rw [ea.1] at o1
      rw [ea.2] at o2
      unfold POut
      rw [Pr.PP_len, Pr.FF_len]
      exact ⟨_, _, _, _, he, arow_owns (by rw [Pr.PP_len]) o1, arow_owns (by rw [Pr.FF_len]) o2, hb⟩
theorem spo_q {a a' : Option Addr} {n c n' c' : Nat} {gs : List Gd} {ls : List (Int × Int)} {w : World} (hn : gs.length = n) (hn1 : n ≤ 1048576) (hc : n ≤ c) (hs : Short gs) (h : GRow w a gs) (hn' : ls.length = n') (h' : LRow w a' ls) :
    Calls Try.prog 7 #[.slice a n c, .slice a' n' c'] w (POut (prP gs ls) (prF gs ls) (prB gs ls) w) := by
  subst hn
  cases hg : goodsB gs
  · have e : prB gs ls = false := by simp [prB, hg]
    have e1 : prP gs ls = [] := by simp [prP, e]
    have e2 : prF gs ls = [] := by simp [prF, e]
    rw [e, e1, e2]
    exact (spo_bad1 rfl hn1 hc hs h hg).mono fun e w' ⟨he, hb⟩ => ⟨none, 0, none, 0, he, Or.inl rfl, Or.inl rfl, hb⟩
  · cases hl : linesB gs.length ls
    · have e : prB gs ls = false := by simp [prB, hl]
      have e1 : prP gs ls = [] := by simp [prP, e]
      have e2 : prF gs ls = [] := by simp [prF, e]
      rw [e, e1, e2]
      exact (spo_bad2 rfl hn1 hc hs h hg hn' h' hl).mono fun e w' ⟨he, hb⟩ => ⟨none, 0, none, 0, he, Or.inl rfl, Or.inl rfl, hb⟩
    · have e : prB gs ls = true := by simp [prB, hg, hl]
      have e1 : prP gs ls = Pr.PP ls gs.length := by simp [prP, e]
      have e2 : prF gs ls = Pr.FF gs ls gs.length := by simp [prF, e]
      have ea := Pr.asked_PP hg rfl hl hn'
      rw [e, e1, e2]
      refine (spo_good rfl hn1 hc hs h hg hn' h' hl).mono fun e w' ⟨hb, x, y, he, _, o1, o2⟩ => ?_
      rw [ea.1] at o1
      rw [ea.2] at o2
      unfold POut
      rw [Pr.PP_len, Pr.FF_len]
      exact ⟨_, _, _, _, he, arow_owns (by rw [Pr.PP_len]) o1, arow_owns (by rw [Pr.FF_len]) o2, hb⟩
set_option maxRecDepth 100000 in
set_option maxHeartbeats 1000000 in
theorem sp_b {a b a' b' : Option Addr} {c d c' d' n m : Nat} {ps fs : List Int} {w : World} (hp : ps.length = n) (hf : fs.length = m) (hn : n ≤ 1000) (hm : m ≤ 1000) (h1 : ARow w a ps) (h2 : ARow w b fs) (h3 : ARow w a' ps) (h4 : ARow w b' fs) :
    Calls Try.prog 8 #[.agg #[.slice a n c, .slice b m d], .agg #[.slice a' n c', .slice b' m d']] w fun e w' => e = .returned (.bool true) ∧ Below w.heap.size w w' := by
  have B0 := ((Below.refl w.heap.size w).alloc (Nat.le_refl _) (.cells #[.slice a n c, .slice b m d] 29)).alloc (by simp) (.cells #[.slice a' n c', .slice b' m d'] 29)
  have H1 := hide (h1.below B0)
  have H2 := hide (h2.below B0)
  have H3 := hide (h3.below B0)
  have H4 := hide (h4.below B0)
  have HB := hide B0
  have HP := hide hp
  have HF := hide hf
  have C0 : Hid (((w.alloc (.cells #[.slice a n c, .slice b m d] 29)).alloc (.cells #[.slice a' n c', .slice b' m d'] 29)).cell? ⟨w.heap.size, 1, none⟩ = some (.slice b m d) ∧ ((w.alloc (.cells #[.slice a n c, .slice b m d] 29)).alloc (.cells #[.slice a' n c', .slice b' m d'] 29)).cell? ⟨w.heap.size + 1, 1, none⟩ = some (.slice b' m d') ∧ w.heap.size + 1 < ((w.alloc (.cells #[.slice a n c, .slice b m d] 29)).alloc (.cells #[.slice a' n c', .slice b' m d'] 29)).heap.size) := hide (by refine ⟨by simp, ?_, by simp⟩; simp)
  clear h1 h2 h3 h4 B0 hp hf
  go_enter Try.func8, Try.ntmps8
  go_wp2_with fail
  generalize (w.alloc (.cells #[.slice a n c, .slice b m d] 29)).alloc (.cells #[.slice a' n c', .slice b' m d'] 29) = W at *
  refine (sameI_b HP.out (by omega) H1.out H3.out).mono ?_
  rintro e w1 ⟨rfl, hb1⟩
  have x0 := (hb1.cell (p := ⟨w.heap.size, 1, none⟩) (show w.heap.size < W.heap.size by have := C0.out.2.2; omega)).trans C0.out.1
  have x1 := (hb1.cell (p := ⟨w.heap.size + 1, 1, none⟩) C0.out.2.2).trans C0.out.2.1
  have H2' := hide (H2.out.below hb1)
  have H4' := hide (H4.out.below hb1)
  have HB1 := hide (HB.out.trans (hb1.mono HB.out.size))
  clear hb1
  go_wp2_with fail
  refine (sameI_b HF.out (by omega) H2'.out H4'.out).mono ?_
  rintro e w2 ⟨rfl, hb2⟩
  have HB2 := hide (HB1.out.trans (hb2.mono HB1.out.size))
  go_wp2_with fail
  go_ret
  exact ⟨rfl, HB2.out⟩
/-- Some goods, some lines. -/
def POPost (w : World) (e : Ending) (w' : World) : Prop :=
  ∃ a1 c1 a2 c2 gs ls, ∃ (n m : Nat), e = .returned (.tuple #[.slice a1 n c1, .slice a2 m c2]) ∧ List.length gs = n ∧ List.length ls = m ∧ n ≤ 13 ∧ m ≤ 82 ∧ n ≤ c1 ∧ m ≤ c2 ∧ Short gs ∧ GRow w' a1 gs ∧ LRow w' a2 ls ∧ Below w.heap.size w w'
theorem own_capP {w : World} {base e n : Nat} {v : Value} {xs : List Value} (h : w.ownsRow base e 2 v n xs) : ∃ a cap, v = .slice a n cap ∧ n ≤ cap := by
  rcases h.2 with ⟨rfl, hn⟩ | ⟨g, cap, cur, rfl, _, _, hc, _⟩
  · subst hn; exact ⟨none, 0, rfl, Nat.le_refl _⟩
  · exact ⟨_, _, rfl, hc⟩
set_option maxRecDepth 100000 in
set_option maxHeartbeats 1000000 in
theorem drawPO_any {a : Option Addr} {len cap : Nat} {w : World} (hs : Hid (Src w a len)) :
    Calls Try.prog 5 #[.slice a len cap] w (POPost w) := by
  have HC := hide (cur_new (cap := cap) hs.out)
  go_enter Try.func5, Try.ntmps5
  go_wp2_with fail
  refine (goods_any HC.out (by omega)).mono ?_
  rintro e w1 ⟨v, gs, rfl, hl, hfew, own1, hc1, hk1⟩
  obtain ⟨a1, c1, rfl, hca⟩ := own_capP own1
  have HO1 := hide own1
  have HC1 := hide hc1
  have HK1 := hide hk1
  have HSH := hide hfew.short
  clear own1 hc1 hk1 HC hfew
  go_wp2_with fail
  refine (lines_any HC1.out (by omega) (by omega)).mono ?_
  rintro e w2 ⟨v2, ls, rfl, hll, own2, hc2, hk2⟩
  obtain ⟨a2, c2, rfl, hcb⟩ := own_capP own2
  have G1 := hide (grow_own rfl (own_kp HO1.out hk2 (by simp))).2
  have L1 := hide (lrow_own rfl own2)
  have HB := hide (((Below.refl w.heap.size w).alloc (Nat.le_refl _) _).trans ((HK1.out.trans hk2).below (Nat.le_refl _) (by simp)))
  clear own2 hc2 hk2 HO1 HK1 HC1
  go_wp2_with fail
  go_ret2
  exact ⟨a1, c1, a2, c2, gs, ls, _, _, rfl, rfl, rfl, hl, hll, hca, hcb, HSH.out, G1.out, L1.out, HB.out⟩
set_option maxRecDepth 100000 in
set_option maxHeartbeats 1000000 in
theorem drawIX_any {a : Option Addr} {len cap : Nat} {w : World} (hs : Hid (Src w a len)) :
    Calls Try.prog 18 #[.slice a len cap] w (DProfN w) := by
  have HD := hide (din_new (cap := cap) hs.out)
  go_enter Try.func18, Try.ntmps18
  go_wp2_with fail
  generalize (w.alloc (.cells #[.slice none 0 0, .slice none 0 0] 29)).alloc (.cells #[.slice a len cap, .int .i64 0, .int .u64 0] 60) = W at *
  refine (drawP_any HD.out.cur (by omega)).mono ?_
  rintro e w1 ⟨vv1, vv2, ps, fs, rfl, hp, hf, o1, o2, hc1, hk1⟩
  obtain ⟨a1, c1, rfl⟩ := own_shG o1
  obtain ⟨a2, c2, rfl⟩ := own_shG o2
  have hWc := HD.out.cur.1
  have O1 := hide o1
  have O2 := hide o2
  have HC1 := hide hc1
  have HK1 := hide hk1
  clear o1 o2 hc1 hk1
  generalize hn : ps.length = n at *
  generalize hm : fs.length = m at *
  have HN := hide hn
  have HM := hide hm
  clear hn hm
  go_upto_region 3 with fail
  have bn := below_alloc w1 (.cells #[.slice a1 n c1, .slice a2 m c2] 29)
  have P0 : (w1.alloc (.cells #[.slice a1 n c1, .slice a2 m c2] 29)).cell? ⟨w1.heap.size, 0, none⟩ = some (.slice a1 n c1) := by simp
  have P1 : (w1.alloc (.cells #[.slice a1 n c1, .slice a2 m c2] 29)).cell? ⟨w1.heap.size, 1, none⟩ = some (.slice a2 m c2) := by simp
  have P2 : w1.heap.size < (w1.alloc (.cells #[.slice a1 n c1, .slice a2 m c2] 29)).heap.size := by simp
  have O1' := hide (O1.out.alloc (.cells #[.slice a1 n c1, .slice a2 m c2] 29))
  have O2' := hide (O2.out.alloc (.cells #[.slice a1 n c1, .slice a2 m c2] 29))
  have HC2 := hide (HC1.out.below bn)
  have HK2 := hide (HK1.out.alloc (.cells #[.slice a1 n c1, .slice a2 m c2] 29))
  have z1 := HK1.out.size
  clear O1 O2 HC1 HK1 bn
  generalize w1.alloc (.cells #[.slice a1 n c1, .slice a2 m c2] 29) = w2 at *
  generalize w1.heap.size = P at *
  have HCD : Hid (Cur w2.drew (w.heap.size + 1) a len cap 800) := hide ((HC2.out.le (by omega)).blocks (w' := w2.drew) (Nat.le_refl _) rfl (fun _ _ _ _ => rfl))
  have hRP : w.heap.size ≠ P := by have := HD.out.lt; omega
  have hPc : P ≠ w.heap.size + 1 := by omega
  have hlt := HD.out.lt
  have e0 : IntKind.i64.wrap ((n : Int) + 2) = (n : Int) + 2 := by rw [IntKind.wrap_i64]; omega
  have e0' : wrap64 ((n : Int) + 2) = (n : Int) + 2 := wrap_id' _ (by omega) (by omega)
  go_region_held3 (fun w' => w'.cell? ⟨P, 0, none⟩ = some (.slice a1 n c1) ∧ w'.cell? ⟨P, 1, none⟩ = some (.slice a2 m c2))
    (first | exact ⟨P0, P1⟩ | assumption | exact ⟨(set_ne hRP).trans ((set_ne hRP).trans hS.1), (set_ne hRP).trans ((set_ne hRP).trans hS.2)⟩ | fail)
    (first
    | (go_at_call 45; refine (pick_any ((n : Int) + 2) (by omega) HCD.out (by omega)).mono ?_; rintro e w3 ⟨z, rfl, z0, zz, hc3, hk3⟩; have hk3' : Kp (w.heap.size + 1) w2 w3 := ⟨hk3.os, hk3.tape, hk3.output, hk3.size, hk3.block⟩; have hS : w3.cell? ⟨P, 0, none⟩ = some (.slice a1 n c1) ∧ w3.cell? ⟨P, 1, none⟩ = some (.slice a2 m c2) := ⟨(hk3'.cell P2 hPc).trans P0, (hk3'.cell P2 hPc).trans P1⟩; have HK3 := hide (HK2.out.trans hk3'); have x0 := (HK3.out.cell (o := 0) hlt (by omega)).trans HD.out.c0; have x1 := (HK3.out.cell (o := 1) hlt (by omega)).trans HD.out.c1; have x2 := (HK3.out.frozen (o := 0) hlt (by omega)).trans HD.out.f0; have x3 := (HK3.out.frozen (o := 1) hlt (by omega)).trans HD.out.f1; have e1 : IntKind.i64.wrap (z - 1) = z - 1 := (by rw [IntKind.wrap_i64]; omega); have e2 : wrap64 (z - 1) = z - 1 := wrap_id' _ (by omega) (by omega); have FIN := hide (fin_draw (own_kp O1'.out hk3' hWc) (own_kp O2'.out hk3' hWc) hlt (HD.out.kp _ HK3.out) (.slice a1 n c1) (.slice a2 m c2)); clear hk3 hk3' hc3)
    | fail)
  all_goals
    go_wp2_with fail
    exact bodyPost_ret (v := .tuple #[.agg #[.slice a1 n c1, .slice a2 m c2], .int .i64 (z - 1)]) (by simp [results, Try.results18, go_sem, *]) rfl (dprofN HN.out HM.out hp hf FIN.out)
end Go.Proofs.Ytegonbilomcpkaa
