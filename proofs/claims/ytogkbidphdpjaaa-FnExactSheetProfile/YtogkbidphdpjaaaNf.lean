/-
  What ProfileOf of the model answers behind its first test.
-/
import Derived.Test.YtogkbidphdpjaaaNe
import Derived.Test.YtogkbidphdpjaaaNd
import Derived.Deep.DeepCutAuto
namespace Go.Proofs.Ytogkbidphdpjaaa
open Go.RowKit Go.Maps Go.Sort

theorem lineF_zero {g : Nat} {gs : List Gd} {ls : List (Int × Int)} (hg : goodsB gs = true) (hn : gs.length = g) (hl : linesB g ls = true) : ∀ k, k ≤ ls.length → ∀ i, ((lineF gs ls k).get i).1 = 0 → ((lineF gs ls k).get i).2 = 0 := by
  intro k
  induction k with
  | zero => intro _ i _; simp [lineF, Dem.get]
  | succ k ih =>
    intro hk i h0
    have hb := lineF_bd hg hn hl k (by omega) i
    by_cases e : i = (ls.getD k (0, 0)).1.toNat
    · have e1 : (lineF gs ls (k + 1)).get i = (((lineF gs ls k).get i).1 + 1, ((lineF gs ls k).get i).2 + (gs.getD i gd0).2 * (ls.getD k (0, 0)).2) := by
        rw [e]; simp only [lineF, Dem.get, Dem.set, if_true, Option.getD_some]
      rw [e1] at h0
      simp only at h0
      omega
    · have e1 : (lineF gs ls (k + 1)).get i = (lineF gs ls k).get i := by simp only [lineF, Dem.get, Dem.set, if_neg e]
      rw [e1] at h0 ⊢
      exact ih (by omega) i h0
theorem askedN (f : Dem) (i : Nat) : f.asked.get i = if (f.get i).1 = 0 then (0, 0) else f.get i := by
  by_cases h : ((f i).getD (0, 0)).1 = 0
  · simp [Dem.asked, Dem.get, h]
  · simp [Dem.asked, Dem.get, h]
theorem asked_same {f : Dem} (h : ∀ i, (f.get i).1 = 0 → (f.get i).2 = 0) (n : Nat) : f.asked.picks n = f.picks n ∧ f.asked.flow n = f.flow n := by
  have e : ∀ i, f.asked.get i = f.get i := fun i => by
    rw [askedN]
    split
    · rename_i h0
      exact Prod.ext h0.symm (h i h0).symm
    · rfl
  unfold Dem.picks Dem.flow
  exact ⟨List.map_congr_left fun i _ => by rw [e], List.map_congr_left fun i _ => by rw [e]⟩
theorem picks_at (f : Dem) {n i : Nat} (hi : i < n) : (f.picks n).getD i 0 = (f.get i).1 := by simp [Dem.picks, hi]
theorem flow_at (f : Dem) {n i : Nat} (hi : i < n) : (f.flow n).getD i 0 = (f.get i).2 := by simp [Dem.flow, hi]
theorem list_ext {xs ys : List Int} {n : Nat} (h1 : xs.length = n) (h2 : ys.length = n) (h : ∀ i, i < n → xs.getD i 0 = ys.getD i 0) : xs = ys := by
  refine List.ext_getElem (by omega) fun i hi hj => ?_
  have := h i (by omega)
  rwa [Pf.getD_lt _ _ hi, Pf.getD_lt _ _ hj] at this
theorem set_at (cs : List Int) (i j : Nat) (x : Int) (hi : i < cs.length) : (cs.set i x).getD j 0 = if j = i then x else cs.getD j 0 := by
  by_cases e : j = i
  · subst e; simp [hi]
  · rw [if_neg e]
    simp only [List.getD_eq_getElem?_getD]
    rw [List.getElem?_set_ne (by omega)]
theorem picks_set (f : Dem) {n i : Nat} (hi : i < n) (x : Int × Int) : (f.set i x).picks n = (f.picks n).set i x.1 :=
  list_ext (picks_len _ _) (by simp [picks_len]) fun j hj => by
    rw [picks_at _ hj, set_at _ _ _ _ (by rw [picks_len]; exact hi), picks_at _ hj]
    simp only [Dem.get, Dem.set]
    split <;> rfl
theorem flow_set (f : Dem) {n i : Nat} (hi : i < n) (x : Int × Int) : (f.set i x).flow n = (f.flow n).set i x.2 :=
  list_ext (flow_len _ _) (by simp [flow_len]) fun j hj => by
    rw [flow_at _ hj, set_at _ _ _ _ (by rw [flow_len]; exact hi), flow_at _ hj]
    simp only [Dem.get, Dem.set]
    split <;> rfl

/-- The profile that is being made: its variable, its two lists, the answer's variable. -/
def PI (w wr : World) (X Y Z n : Nat) (ps fl : List Int) : Prop :=
  RV w wr ∧ wr.cell? ⟨Z, 0, none⟩ = some (.slice (some ⟨X, 0, none⟩) n n) ∧ wr.cell? ⟨Z, 1, none⟩ = some (.slice (some ⟨Y, 0, none⟩) n n) ∧ wr.ownsRow w.heap.size 3 1 (.slice (some ⟨X, 0, none⟩) n n) n (ints ps) ∧ wr.ownsRow w.heap.size 3 1 (.slice (some ⟨Y, 0, none⟩) n n) n (ints fl) ∧ Z < wr.heap.size ∧
    (w.heap.size < X ∧ w.heap.size < Y ∧ w.heap.size < Z ∧ X ≠ Y ∧ X ≠ Z ∧ Y ≠ Z)
theorem PI.below {w wr w' : World} {X Y Z n : Nat} {ps fl : List Int} (h : PI w wr X Y Z n ps fl) (hb : Below wr.heap.size wr w') : PI w w' X Y Z n ps fl := by
  obtain ⟨h1, h2, h3, h4, h5, h6, h7⟩ := h
  exact ⟨h1.below hb, (hb.cell (p := ⟨Z, 0, none⟩) h6).trans h2, (hb.cell (p := ⟨Z, 1, none⟩) h6).trans h3, owns_keep h4 (hb.block X (h4.lt X rfl).2), owns_keep h5 (hb.block Y (h5.lt Y rfl).2), Nat.lt_of_lt_of_le h6 hb.size, h7⟩
theorem PI.setX {w wr : World} {X Y Z n i : Nat} {ps fl : List Int} (h : PI w wr X Y Z n ps fl) (x : Int) : PI w (wr.setCell ⟨X, i, none⟩ (.int .i64 x)) X Y Z n (ps.set i x) fl := by
  obtain ⟨h1, h2, h3, h4, h5, h6, k1, k2, k3, k4, k5, k6⟩ := h
  have hb : ∀ b, b ≠ X → (wr.setCell ⟨X, i, none⟩ (.int .i64 x)).heap[b]? = wr.heap[b]? := fun b hne => Below.heap_setCell _ _ _ b hne
  obtain ⟨st, _⟩ := h4.stored i (.int .i64 x)
  rw [ints_set] at st
  refine ⟨h1.keep (by simp) (h1.2.2.2.2.1.setCell (by show w.heap.size ≤ X; omega) _) (hb _ (by omega)), (World.cell?_of_block (w := wr) (a := ⟨Z, 0, none⟩) (hb Z (Ne.symm k5))).trans h2, (World.cell?_of_block (w := wr) (a := ⟨Z, 1, none⟩) (hb Z (Ne.symm k5))).trans h3, st, owns_keep h5 (hb Y (Ne.symm k4)), by simpa using h6, k1, k2, k3, k4, k5, k6⟩
theorem PI.setY {w wr : World} {X Y Z n i : Nat} {ps fl : List Int} (h : PI w wr X Y Z n ps fl) (x : Int) : PI w (wr.setCell ⟨Y, i, none⟩ (.int .i64 x)) X Y Z n ps (fl.set i x) := by
  obtain ⟨h1, h2, h3, h4, h5, h6, k1, k2, k3, k4, k5, k6⟩ := h
  have hb : ∀ b, b ≠ Y → (wr.setCell ⟨Y, i, none⟩ (.int .i64 x)).heap[b]? = wr.heap[b]? := fun b hne => Below.heap_setCell _ _ _ b hne
  obtain ⟨st, _⟩ := h5.stored i (.int .i64 x)
  rw [ints_set] at st
  refine ⟨h1.keep (by simp) (h1.2.2.2.2.1.setCell (by show w.heap.size ≤ Y; omega) _) (hb _ (by omega)), (World.cell?_of_block (w := wr) (a := ⟨Z, 0, none⟩) (hb Z (Ne.symm k6))).trans h2, (World.cell?_of_block (w := wr) (a := ⟨Z, 1, none⟩) (hb Z (Ne.symm k6))).trans h3, owns_keep h4 (hb X k4), st, by simpa using h6, k1, k2, k3, k4, k5, k6⟩
theorem PI.drew {w wr : World} {X Y Z n : Nat} {ps fl : List Int} (h : PI w wr X Y Z n ps fl) : PI w wr.drew X Y Z n ps fl := h.below (Below.refl _ _).drew
theorem fresh_own {wc : World} {base G n : Nat} (hG : base ≤ G) (hx : wc.heap[G]? = some (.cells (madeCells #[.int .i64 0] n) 3 (0, 0))) (hm : n ≤ maxLen) : wc.ownsRow base 3 1 (.slice (some ⟨G, 0, none⟩) n n) n (ints (List.replicate n 0)) :=
  ⟨by simp [ints], Or.inr ⟨G, n, madeCells #[.int .i64 0] n, rfl, hG, hx, Nat.le_refl _, hm, by simp [madeCells], by rw [toList_madeCells_one]; simp [ints]⟩⟩
theorem pi_new {w w1 wc : World} {X Y Z n : Nat} (r1 : RV w w1) (hF : Fresh w1 wc X Y Z n) (hn : n ≤ 1000) : PI w wc X Y Z n (List.replicate n 0) (List.replicate n 0) := by
  have r2 := r1.below hF.below
  have hs := r1.2.2.2.2.2
  have l1 := hF.lx
  have l2 := hF.ly
  have l3 := hF.lz
  exact ⟨r2, hF.c0, hF.c1, fresh_own (by omega) hF.x (by unfold maxLen; omega), fresh_own (by omega) hF.y (by unfold maxLen; omega), World.block_lt_of_cell? wc _ hF.c0, by omega, by omega, by omega, hF.xy, hF.xz, hF.yz⟩
theorem zero_lists (n : Nat) (gs : List Gd) (ls : List (Int × Int)) : (lineF gs ls 0).picks n = List.replicate n 0 ∧ (lineF gs ls 0).flow n = List.replicate n 0 := by
  refine ⟨list_ext (picks_len _ _) (by simp) fun i hi => ?_, list_ext (flow_len _ _) (by simp) fun i hi => ?_⟩
  · rw [picks_at _ hi]; simp [lineF, Dem.get, hi]
  · rw [flow_at _ hi]; simp [lineF, Dem.get, hi]
theorem lineF_take (gs : List Gd) (ls : List (Int × Int)) (k : Nat) : ∀ m, m ≤ k → lineF gs (ls.take k) m = lineF gs ls m
  | 0, _ => rfl
  | m + 1, h => by
    have e : (ls.take k).getD m (0, 0) = ls.getD m (0, 0) := by simp [show m < k by omega]
    rw [lineF, lineF, e, lineF_take gs ls k m (by omega)]
theorem pre_bd {n : Nat} {gs : List Gd} {ls : List (Int × Int)} {k : Nat} (hg : goodsB gs = true) (hn : gs.length = n) (hl : ls.length ≤ 80) (hk : k ≤ ls.length) (h : ∀ i, i < k → lineB n (ls.getD i (0, 0)) = true) (i : Nat) :
    0 ≤ ((lineF gs ls k).get i).1 ∧ ((lineF gs ls k).get i).1 ≤ 80 ∧ 0 ≤ ((lineF gs ls k).get i).2 ∧ ((lineF gs ls k).get i).2 ≤ 800000 := by
  have hlen : (ls.take k).length = k := by simp; omega
  have hb := lineF_bd (ls := ls.take k) hg hn (linesB_of (by omega) fun j hj => by
    have e : (ls.take k).getD j (0, 0) = ls.getD j (0, 0) := by simp [show j < k by omega]
    rw [e]; exact h j (by omega)) k (by omega) i
  rw [lineF_take gs ls k k (Nat.le_refl _)] at hb
  omega
theorem size_bd {gs : List Gd} (hg : goodsB gs = true) {i : Nat} (hi : i < gs.length) : 1 ≤ (gs.getD i gd0).2 ∧ (gs.getD i gd0).2 ≤ 100 := by
  have h2 := goodsB_at hg hi
  simp only [okG, Bool.and_eq_true] at h2
  exact Pf.inB_yes h2.2.1
theorem new_at0 (w : World) (x y : Value) (t : TypeId) {H : Nat} (h : w.heap.size = H) : (w.alloc (.cells #[x, y] t)).cell? ⟨H, 0, none⟩ = some x := by subst h; simp
theorem new_at1 (w : World) (x y : Value) (t : TypeId) {H : Nat} (h : w.heap.size = H) : (w.alloc (.cells #[x, y] t)).cell? ⟨H, 1, none⟩ = some y := by subst h; simp
theorem at_line {wr W : World} {b o k : Nat} {v : Option Value} (hb : W.heap[b]? = wr.heap[b]?) (h : wr.cell? ⟨b, o + k, none⟩ = v) : W.cell? ⟨b, o + k, none⟩ = v := (World.cell?_of_block (w := wr) (a := ⟨b, o + k, none⟩) hb).trans h

set_option maxRecDepth 100000 in
set_option maxHeartbeats 2000000 in
theorem spo_rest {a a' : Option Addr} {n c n' c' : Nat} {gs : List Gd} {ls : List (Int × Int)} {w : World} (hn : gs.length = n) (hn1 : n ≤ 1048576) (hc : n ≤ c) (hs : Short gs) (h : GRow w a gs) (hg : goodsB gs = true) (hl : ls.length = n') (hl80 : n' ≤ 80) (h' : LRow w a' ls) :
    Calls Try.prog 36 #[.slice a n c, .slice a' n' c'] w fun e w' => Below w.heap.size w w' ∧
      ((linesB n ls = false ∧ e = .returned (.tuple #[.agg #[.slice none 0 0, .slice none 0 0], .bool false])) ∨
       (linesB n ls = true ∧ ∃ x y, e = .returned (.tuple #[.agg #[.slice (some ⟨x, 0, none⟩) n n, .slice (some ⟨y, 0, none⟩) n n], .bool true]) ∧ x ≠ y ∧ w'.ownsRow w.heap.size 3 1 (.slice (some ⟨x, 0, none⟩) n n) n (ints ((lineF gs ls n').picks n)) ∧ w'.ownsRow w.heap.size 3 1 (.slice (some ⟨y, 0, none⟩) n n) n (ints ((lineF gs ls n').flow n)))) := by
  have h12 : n ≤ 12 := hn ▸ goodsB_len hg
  have hmk := makeI_run n (by omega)
  have h80 : ¬ (80 : Int) < (n' : Int) := by omega
  have H := hide h
  have HG := hide hg
  have HN := hide hn
  have HS := hide hs
  have HL := hide hl
  have H' := hide h'
  clear h hg hn hs hl h'
  go_enter Try.func36, Try.ntmps36
  go_upto_region 3 with ((go_at_call 26; refine (sgg_h HN hn1 hc HS H HG ((Below.refl _ _).alloc (Nat.le_refl _) _)).mono ?_; rintro e w1 ⟨rfl, hb1⟩; have R1 := hide ((RV.new w _).below hb1); clear hb1))
  go_cut [6] (fun s6 wc => ∃ X Y Z, s6 = .pointer (some ⟨Z, 0, none⟩) ∧ Hid (Fresh w1 wc X Y Z n))
  case first =>
    go_region
    all_goals
      go_wp2_with fail
      go_meet
      case rel =>
        first
        | exact ⟨_, _, _, rfl, fresh012 _ _ _⟩
        | exact ⟨_, _, _, rfl, fresh021 _ _ _⟩
        | exact ⟨_, _, _, rfl, fresh102 _ _ _⟩
        | exact ⟨_, _, _, rfl, fresh120 _ _ _⟩
        | exact ⟨_, _, _, rfl, fresh201 _ _ _⟩
        | exact ⟨_, _, _, rfl, fresh210 _ _ _⟩
  case rest =>
    obtain ⟨X, Y, Z, rfl, HF⟩ := hcut
    have P0 : Hid (PI w wc X Y Z n ((lineF gs ls 0).picks n) ((lineF gs ls 0).flow n)) := hide (by
      rw [(zero_lists n gs ls).1, (zero_lists n gs ls).2]; exact pi_new R1.out HF.out (by omega))
    clear HF R1 hmk
    go_wp2_with fail
    go_loopw [5, 8, 27] (fun s5 _ s wr => ∃ k : Nat, s5 = .bool false ∧ s = .int .i64 k ∧ k ≤ n' ∧ Hid (∀ i, i < k → lineB n (ls.getD i (0, 0)) = true) ∧ Hid (PI w wr X Y Z n ((lineF gs ls k).picks n) ((lineF gs ls k).flow n))) (fun _ _ s _ => n' - (intOf s).toNat)
    case atStart => exact ⟨0, rfl, rfl, Nat.zero_le _, hide fun i hi => absurd hi (Nat.not_lt_zero _), P0⟩
    case round =>
      obtain ⟨k, rfl, rfl, hk, HA, HP⟩ := hrel
      have hB := HP.out.1.2.2.2.2.1
      by_cases hlt : k < n'
      · obtain ⟨bl, ol, rfl, hbl, l0, l1⟩ := (H'.out.below hB).at (i := k) (by rw [HL.out]; exact hlt)
        have k0 : (0 : Int) ≤ (k : Int) := by omega
        have k1 : (k : Int) < (n' : Int) := by omega
        have HX := hide (rfl : ls.getD k (0, 0) = ls.getD k (0, 0))
        generalize hx : ls.getD k (0, 0) = x at *
        have HXX := hide hx
        obtain ⟨gi, q⟩ := x
        obtain ⟨rc0, rc1, rf0, rf1, _, rl⟩ := HP.out.1
        have bad : lineB n (gi, q) = false → linesB n ls = false := fun hb => linesB_not (i := k) (by rw [HL.out]; exact hlt) (by rw [HXX.out]; exact hb)
        have BAD := hide bad
        have BB := hide (((hB.setCell (p := ⟨w.heap.size, 0, none⟩) (Nat.le_refl _) (.slice none 0 0)).setCell (p := ⟨w.heap.size, 1, none⟩) (Nat.le_refl _) (.slice none 0 0)).alloc (by simp; omega) (.cells #[.int .i64 gi, .int .i64 q] 52))
        clear hx HX bad
        by_cases g0 : gi < 0
        · have HF := hide (BAD.out (by simp [lineB, Pf.inB, show ¬ 0 ≤ gi by omega]))
          go_wp2_with fail
          exact bodyPost_ret (v := .tuple #[.agg #[.slice none 0 0, .slice none 0 0], .bool false]) (by simp [results, Try.results36, go_sem, rc0, rc1, rl]) rfl ⟨BB.out, Or.inl ⟨HF.out, rfl⟩⟩
        · by_cases g1 : (n : Int) ≤ gi
          · have HF := hide (BAD.out (by simp [lineB, Pf.inB, show ¬ gi ≤ (n : Int) - 1 by omega]))
            go_wp2_with fail
            exact bodyPost_ret (v := .tuple #[.agg #[.slice none 0 0, .slice none 0 0], .bool false]) (by simp [results, Try.results36, go_sem, rc0, rc1, rl]) rfl ⟨BB.out, Or.inl ⟨HF.out, rfl⟩⟩
          · cases hq : Pf.inB q 1 99
            · have HF := hide (BAD.out (by simp [lineB, hq]))
              go_wp2_with (go_at_call 25; refine (in_eq hq).mono ?_; rintro e w2 ⟨rfl, rfl⟩)
              exact bodyPost_ret (v := .tuple #[.agg #[.slice none 0 0, .slice none 0 0], .bool false]) (by simp [results, Try.results36, go_sem, rc0, rc1, rl]) rfl ⟨BB.out, Or.inl ⟨HF.out, rfl⟩⟩
            · obtain ⟨i, rfl⟩ := Int.eq_ofNat_of_zero_le (show 0 ≤ gi by omega)
              have hin : i < n := by omega
              have HGood : Hid (lineB n ((i : Int), q) = true) := hide (by simp only [lineB, Bool.and_eq_true]; exact ⟨Pf.inB_of (by omega) (by omega), hq⟩)
              have HA' : Hid (∀ j, j < k + 1 → lineB n (ls.getD j (0, 0)) = true) := hide fun j hj => by
                by_cases e : j = k
                · subst e; rw [HXX.out]; exact HGood.out
                · exact HA.out j (by omega)
              have hbd := pre_bd HG.out HN.out (by rw [HL.out]; exact hl80) (by rw [HL.out]; exact hk) HA.out i
              obtain ⟨q0, q1⟩ := Pf.inB_yes hq
              have HSTEP : Hid (lineF gs ls (k + 1) = (lineF gs ls k).set i (((lineF gs ls k).get i).1 + 1, ((lineF gs ls k).get i).2 + (gs.getD i gd0).2 * q)) := hide (by rw [lineF, HXX.out]; rfl)
              have hz := size_bd HG.out (i := i) (by rw [HN.out]; exact hin)
              have hpr : 0 ≤ (gs.getD i gd0).2 * q ∧ (gs.getD i gd0).2 * q ≤ 10000 := ⟨Int.mul_nonneg (by omega) (by omega), Int.le_trans (Int.mul_le_mul hz.2 q1 (by omega) (by omega)) (by decide)⟩
              have P9 := (HP.out.setX (i := i) (((lineF gs ls k).get i).1 + 1)).below (bnew _ (.cells #[.int .i64 (i : Int), .int .i64 q] 52))
              obtain ⟨_, z0, _, ox, _, zl, ks1, ks2, ks3, ks4, ks5, ks6⟩ := HP.out
              have xl := (ox.lt X rfl).2
              have cX : wr.cell? ⟨X, i, none⟩ = some (.int .i64 ((lineF gs ls k).get i).1) := by rw [ox.cellAt i (by omega), ints_get _ i (by rw [picks_len]; exact hin), picks_at _ hin]
              have fX := ox.frozenAt i
              obtain ⟨bg, og, rfl, hbg, _, s1⟩ := (H.out.below P9.1.2.2.2.2.1).at (i := i) (by rw [HN.out]; exact hin)
              have cY : ((wr.setCell ⟨X, i, none⟩ (.int .i64 (((lineF gs ls k).get i).1 + 1))).alloc (.cells #[.int .i64 (i : Int), .int .i64 q] 52)).cell? ⟨Y, i, none⟩ = some (.int .i64 ((lineF gs ls k).get i).2) := by rw [P9.2.2.2.2.1.cellAt i (by omega), ints_get _ i (by rw [flow_len]; exact hin), flow_at _ hin]
              have fY := P9.2.2.2.2.1.frozenAt i
              have v0 : ((wr.setCell ⟨X, i, none⟩ (.int .i64 (((lineF gs ls k).get i).1 + 1))).alloc (.cells #[.int .i64 (i : Int), .int .i64 q] 52)).cell? ⟨wr.heap.size, 0, none⟩ = some (.int .i64 (i : Int)) := new_at0 _ _ _ _ (by simp)
              have v1 : ((wr.setCell ⟨X, i, none⟩ (.int .i64 (((lineF gs ls k).get i).1 + 1))).alloc (.cells #[.int .i64 (i : Int), .int .i64 q] 52)).cell? ⟨wr.heap.size, 1, none⟩ = some (.int .i64 q) := new_at1 _ _ _ _ (by simp)
              have z1 := P9.2.2.1
              have HP9 := hide P9
              have hHQ := hide hq
              have i0 : (0 : Int) ≤ (i : Int) := by omega
              have i1 : (i : Int) < (n : Int) := by omega
              generalize ((lineF gs ls k).get i).1 = pi at *
              generalize ((lineF gs ls k).get i).2 = fi at *
              generalize (gs.getD i gd0).2 = sz at *
              obtain ⟨b0, b1, b2, b3⟩ := hbd
              obtain ⟨sz0, sz1⟩ := hz
              obtain ⟨pr0, pr1⟩ := hpr
              clear P9 ox g0 g1 hq BAD
              go_upto_region 10 with (go_at_call 25; refine (in_eq hHQ.out).mono ?_; rintro e w2 ⟨rfl, rfl⟩)
              generalize (wr.setCell ⟨X, i, none⟩ (.int .i64 (pi + 1))).alloc (.cells #[.int .i64 (i : Int), .int .i64 q] 52) = W9 at *
              clear cX fX z0
              go_region
              go_wp2_with fail
              go_roundw
              case rel =>
                refine ⟨k + 1, rfl, by go_num, by omega, HA', hide ?_⟩
                rw [HSTEP.out, picks_set _ hin, flow_set _ hin]
                first | exact (HP9.out.setY _).drew | exact HP9.out.drew.setY _
              case measure => simp only [intOf]; omega
      · have hke : k = n' := by omega
        subst hke
        have HLB : Hid (linesB n ls = true) := hide (linesB_of (by rw [HL.out]; exact hl80) fun i hi => HA.out i (by rw [← HL.out]; exact hi))
        obtain ⟨⟨rc0, rc1, rf0, rf1, hBw, rl⟩, z0, z1, ox, oy, zl, ks1, ks2, ks3, ks4, ks5, ks6⟩ := HP.out
        have HX := hide (own_two ox (B := w.heap.size) (by omega) (.slice (some ⟨X, 0, none⟩) n n) (.slice (some ⟨Y, 0, none⟩) n n))
        have HY := hide (own_two oy (B := w.heap.size) (by omega) (.slice (some ⟨X, 0, none⟩) n n) (.slice (some ⟨Y, 0, none⟩) n n))
        have HBE := hide ((hBw.setCell (p := ⟨w.heap.size, 0, none⟩) (Nat.le_refl _) (.slice (some ⟨X, 0, none⟩) n n)).setCell (p := ⟨w.heap.size, 1, none⟩) (Nat.le_refl _) (.slice (some ⟨Y, 0, none⟩) n n))
        clear ox oy HP hBw
        go_wp2_with fail
        exact bodyPost_ret (v := .tuple #[.agg #[.slice (some ⟨X, 0, none⟩) n n, .slice (some ⟨Y, 0, none⟩) n n], .bool true]) (by simp [results, Try.results36, go_sem, rc0, rc1]) rfl ⟨HBE.out, Or.inr ⟨HLB.out, X, Y, rfl, ks4, HX.out, HY.out⟩⟩
theorem spo_good {a a' : Option Addr} {n c n' c' : Nat} {gs : List Gd} {ls : List (Int × Int)} {w : World} (hn : gs.length = n) (hn1 : n ≤ 1048576) (hc : n ≤ c) (hs : Short gs) (h : GRow w a gs) (hg : goodsB gs = true) (hl : ls.length = n') (h' : LRow w a' ls) (hlb : linesB n ls = true) :
    Calls Try.prog 36 #[.slice a n c, .slice a' n' c'] w fun e w' => Below w.heap.size w w' ∧ ∃ x y, e = .returned (.tuple #[.agg #[.slice (some ⟨x, 0, none⟩) n n, .slice (some ⟨y, 0, none⟩) n n], .bool true]) ∧ x ≠ y ∧ w'.ownsRow w.heap.size 3 1 (.slice (some ⟨x, 0, none⟩) n n) n (ints ((lineF gs ls n').asked.picks n)) ∧ w'.ownsRow w.heap.size 3 1 (.slice (some ⟨y, 0, none⟩) n n) n (ints ((lineF gs ls n').asked.flow n)) := by
  have e := asked_same (lineF_zero hg hn hlb n' (by omega)) n
  rw [e.1, e.2]
  refine (spo_rest hn hn1 hc hs h hg hl (hl ▸ linesB_len hlb) h').mono fun e w' ⟨hb, hr⟩ => ?_
  rcases hr with ⟨h1, _⟩ | ⟨_, hr⟩
  · rw [hlb] at h1; cases h1
  · exact ⟨hb, hr⟩
theorem spo_bad2 {a a' : Option Addr} {n c n' c' : Nat} {gs : List Gd} {ls : List (Int × Int)} {w : World} (hn : gs.length = n) (hn1 : n ≤ 1048576) (hc : n ≤ c) (hs : Short gs) (h : GRow w a gs) (hg : goodsB gs = true) (hl : ls.length = n') (h' : LRow w a' ls) (hlb : linesB n ls = false) :
    Calls Try.prog 36 #[.slice a n c, .slice a' n' c'] w fun e w' => e = .returned (.tuple #[.agg #[.slice none 0 0, .slice none 0 0], .bool false]) ∧ Below w.heap.size w w' := by
  by_cases h80 : n' ≤ 80
  · refine (spo_rest hn hn1 hc hs h hg hl h80 h').mono fun e w' ⟨hb, hr⟩ => ?_
    rcases hr with ⟨_, h1⟩ | ⟨h1, _⟩
    · exact ⟨h1, hb⟩
    · rw [hlb] at h1; cases h1
  · exact spo_many hn hn1 hc hs h hg (by omega)
end Go.Proofs.Ytogkbidphdpjaaa
