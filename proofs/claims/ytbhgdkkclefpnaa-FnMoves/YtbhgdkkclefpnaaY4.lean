/-
  In one: Dt10, Du10, Dv10.
-/
import Derived.Test.YtbhgdkkclefpnaaY3
import Derived.Test.YtbhgdkkclefpnaaY1
namespace Go.Proofs.Ytbhgdkkclefpnaa
open Go.RowKit

theorem arow_same {w w' : World} {g : Nat} {xs : List Int} (h : ARow w (some ⟨g, 0, none⟩) xs) (hs : w.heap.size ≤ w'.heap.size) (hb : g < w.heap.size → w'.heap[g]? = w.heap[g]?) : ARow w' (some ⟨g, 0, none⟩) xs := by
  rcases h with h | ⟨b, o, e, hl, hc⟩
  · exact Or.inl h
  · cases e
    exact Or.inr ⟨g, 0, rfl, Nat.lt_of_lt_of_le hl hs, fun i hi => (World.cell?_of_block (w := w) (hb hl)).trans (hc i hi)⟩
theorem arow_kp {w w' : World} {c g : Nat} {xs : List Int} (h : ARow w (some ⟨g, 0, none⟩) xs) (hk : Kp c w w') (hne : g ≠ c) : ARow w' (some ⟨g, 0, none⟩) xs :=
  arow_same h hk.size fun hl => hk.block g hl hne
/-- A list and moves. -/
def DMPost (w : World) (e : Ending) (w' : World) : Prop :=
  ∃ a c b d xs L, ∃ n m : Nat, e = .returned (.tuple #[.slice a n c, .slice b m d]) ∧ List.length xs = n ∧ List.length L = m ∧ n ≤ c ∧ n ≤ 10 ∧ m ≤ 20 ∧ ARow w' a xs ∧ FRow w' b L ∧ Below w.heap.size w w'
theorem fat_put {w : World} {g i n : Nat} {L : List (Int × Int)} {F T : Int} (h : FAt w g 0 L) (hl : LooseF w g (n * 2)) (hi : i < n) :
    FAt ((w.setCell ⟨g, i * 2, none⟩ (.int .i64 F)).setCell ⟨g, i * 2 + 1, none⟩ (.int .i64 T)) g 0 (L.set i (F, T)) := by
  obtain ⟨p0, p1, p2, _⟩ := putF2 (x := .int .i64 F) (y := .int .i64 T) (hl (i * 2) (by omega)).1 (hl (i * 2 + 1) (by omega)).1
  intro j hj
  rw [List.length_set] at hj
  rw [Nat.zero_add]
  by_cases e : j = i
  · subst e
    have : (L.set j (F, T)).getD j (0, 0) = (F, T) := by simp [hj]
    rw [this]
    exact ⟨p0, p1⟩
  · have : (L.set i (F, T)).getD j (0, 0) = L.getD j (0, 0) := by
      simp only [List.getD_eq_getElem?_getD]; rw [List.getElem?_set_ne (Ne.symm e)]
    rw [this, p2 (j * 2) (by omega) (by omega), p2 (j * 2 + 1) (by omega) (by omega)]
    have := h j hj
    rwa [Nat.zero_add] at this
set_option maxRecDepth 100000 in
set_option maxHeartbeats 2000000 in
theorem drawDM_any {a : Option Addr} {len cap : Nat} {w : World} (hs : Hid (Src w a len)) :
    Calls Try.prog 15 #[.slice a len cap] w (DMPost w) := by
  have HC := hide (cur_new (cap := cap) hs.out)
  go_enter Try.func15, Try.ntmps15
  go_wp2_with fail
  refine (spots_any HC.out (by omega)).mono ?_
  rintro e w1 ⟨n, g, cp, u, xs, ws, rfl, h1, h2, ⟨hx, hw, own1, own2, hgb, hgl⟩, hc1, hk1⟩
  obtain ⟨a1, c1, e1, hc, r1⟩ := own_cap hx own1
  cases e1
  obtain ⟨a2, c2, rfl, hd, r2⟩ := own_cap hw own2
  have hgc1 : g ≠ w.heap.size := by simp at hgb; omega
  have hws : w.heap.size < w1.heap.size := by have := hk1.size; simp at this; omega
  have HC1 := hide hc1
  have HP := hide (spm_w (c := cp) (d := c2) hx hw hc hd r1 r2)
  have R1 := hide r1
  have HX := hide hx
  have HB := hide (cur_below10 hk1)
  have hml := pmL_le xs ws
  generalize Mx.sameB xs ws = G at *
  generalize Mx.pmL xs ws = L at *
  generalize hLm : L.length = m at *
  have HLM := hide hLm
  clear own1 own2 r1 r2 hc1 hk1 HC hx hw hLm
  go_wp2_with fail
  refine HP.out.mono ?_
  rintro e w2 ⟨v, rfl, hb2, hmo⟩
  have HMO := hide hmo
  have HC2 := hide (HC1.out.below hb2)
  have R2 := hide (R1.out.below hb2)
  have HB2 := hide (HB.out.trans (hb2.mono HB.out.size))
  obtain ⟨_, _, hh⟩ := hmo
  clear hb2 HC1 R1 HP
  rcases hh with ⟨rfl, av, cv, rfl⟩ | ⟨gm, cm, rfl, hg0, hg1, hfat, hloo⟩
  · go_wp2_with fail
    go_ret2
    exact ⟨_, cp, av, cv, xs, L, n, 0, rfl, HX.out, HLM.out, hc, h2, by omega, R2.out, Or.inl (List.length_eq_zero_iff.1 HLM.out), HB2.out⟩
  · have HF := hide hfat
    have HL := hide hloo
    clear hfat hloo
    rcases Nat.eq_zero_or_pos m with rfl | hm0
    · have z1 : ¬ (0 : Int) < ((0 : Nat) : Int) := by omega
      go_wp2_with fail
      go_ret2
      exact ⟨_, cp, _, cm, xs, L, n, 0, rfl, HX.out, HLM.out, hc, h2, by omega, R2.out, HF.out.row (by omega), HB2.out⟩
    · have z1 : (0 : Int) < (m : Int) := by omega
      have hgc : gm ≠ w.heap.size := by omega
      go_wp2_with fail
      refine (one_any 4 (by omega) HC2.out (by omega)).mono ?_
      rintro e w3 ⟨r3, rfl, hc3, hk3⟩
      have R3 := hide (arow_kp R2.out hk3 hgc1)
      have HF3 := hide (HF.out.keep (hk3.block gm hg1 hgc))
      have HL3 := hide (HL.out.keep (hk3.block gm hg1 hgc))
      have HB3 := hide (HB2.out.trans (hk3.below (B := w.heap.size) (Nat.le_refl _) HB2.out.size))
      have HC3 := hide hc3
      have hg3 : gm < w3.heap.size := Nat.lt_of_lt_of_le hg1 hk3.size
      clear hc3 hk3 R2 HF HL HB2 HC2
      cases r3
      · go_wp2_with fail
        go_ret2
        exact ⟨_, cp, _, cm, xs, L, n, m, rfl, HX.out, HLM.out, hc, h2, hml, R3.out, HF3.out.row hg3, HB3.out⟩
      · go_wp2_with fail
        refine (pick_any (m : Int) (by omega) HC3.out (by omega)).mono ?_
        rintro e w4 ⟨r4, rfl, q0, q1, hc4, hk4⟩
        obtain ⟨i, rfl⟩ := Int.eq_ofNat_of_zero_le q0
        have hi : i < m := by omega
        have R4 := hide (arow_kp R3.out hk4 hgc1)
        have HF4 := hide (HF3.out.keep (hk4.block gm hg3 hgc))
        have HL4 := hide (HL3.out.keep (hk4.block gm hg3 hgc))
        have HB4 := hide (HB3.out.trans (hk4.below (B := w.heap.size) (Nat.le_refl _) HB3.out.size))
        have HC4 := hide hc4
        have hg4 : gm < w4.heap.size := Nat.lt_of_lt_of_le hg3 hk4.size
        clear hc4 hk4 R3 HF3 HL3 HB3 HC3 q1
        go_wp2_with fail
        refine (pick_any 11 (by omega) HC4.out (by omega)).mono ?_
        rintro e w5 ⟨r5, rfl, q2, q3, hc5, hk5⟩
        have R5 := hide (arow_kp R4.out hk5 hgc1)
        have HF5 := hide (HF4.out.keep (hk5.block gm hg4 hgc))
        have HL5 := hide (HL4.out.keep (hk5.block gm hg4 hgc))
        have HB5 := hide (HB4.out.trans (hk5.below (B := w.heap.size) (Nat.le_refl _) HB4.out.size))
        have HC5 := hide hc5
        have hg5 : gm < w5.heap.size := Nat.lt_of_lt_of_le hg4 hk5.size
        clear hc5 hk5 R4 HF4 HL4 HB4 HC4
        go_wp2_with fail
        refine (pick_any 11 (by omega) HC5.out (by omega)).mono ?_
        rintro e w6 ⟨r6, rfl, q4, q5, hc6, hk6⟩
        have R6 := hide (arow_kp R5.out hk6 hgc1)
        have HF6 := hide (HF5.out.keep (hk6.block gm hg5 hgc))
        have hl6 := HL5.out.keep (hk6.block gm hg5 hgc)
        have HB6 := hide (HB5.out.trans (hk6.below (B := w.heap.size) (Nat.le_refl _) HB5.out.size))
        have hg6 : gm < w6.heap.size := Nat.lt_of_lt_of_le hg5 hk6.size
        have HPUT := hide (fat_put (F := r5 - 1) (T := r6 - 1) HF6.out hl6 hi)
        obtain ⟨l1, l2⟩ := hl6 (i * 2) (by omega)
        obtain ⟨l3, l4⟩ := hl6 (i * 2 + 1) (by omega)
        obtain ⟨y1, hy1⟩ := Option.isSome_iff_exists.1 l1
        obtain ⟨y2, hy2⟩ := Option.isSome_iff_exists.1 l3
        have i0 : (0 : Int) ≤ (i : Int) := by omega
        have i1 : (i : Int) < (m : Int) := by omega
        clear hc6 hk6 R5 HF5 HL5 HB5 HC5 l1 l3 hl6
        go_wp2_with fail
        go_ret2
        refine ⟨_, cp, _, cm, xs, L.set i (r5 - 1, r6 - 1), n, m, rfl, HX.out, by rw [List.length_set]; exact HLM.out, hc, h2, hml, ?_, HPUT.out.row (by simpa using hg6), (HB6.out.setCell (p := ⟨gm, i * 2, none⟩) (by show w.heap.size ≤ gm; omega) _).setCell (p := ⟨gm, i * 2 + 1, none⟩) (by show w.heap.size ≤ gm; omega) _⟩
        refine arow_same R6.out (by simp) fun _ => ?_
        rw [Below.heap_setCell _ _ _ _ (by show g ≠ gm; omega), Below.heap_setCell _ _ _ _ (by show g ≠ gm; omega)]
def BMPost (w : World) (e : Ending) (w' : World) : Prop :=
  ∃ b d L, ∃ m : Nat, e = .returned (.slice b m d) ∧ List.length L = m ∧ m ≤ 20 ∧ FRow w' b L ∧ Below w.heap.size w w'
set_option maxRecDepth 100000 in
set_option maxHeartbeats 1000000 in
theorem drawBM_any {a : Option Addr} {len cap : Nat} {w : World} (hs : Hid (Src w a len)) :
    Calls Try.prog 20 #[.slice a len cap] w (BMPost w) := by
  go_enter Try.func20, Try.ntmps20
  go_wp2_with fail
  refine (drawDM_any hs).mono ?_
  rintro e w1 ⟨a, c, b, d, xs, L, n, m, rfl, hx, hl, hc, hn, hm, r1, r2, hb1⟩
  have R2 := hide r2
  have HB := hide hb1
  have HL := hide hl
  clear r1 r2 hb1 hl
  go_wp2_with fail
  go_ret
  exact ⟨b, d, L, m, rfl, HL.out, hm, R2.out, HB.out⟩
set_option maxRecDepth 100000 in
set_option maxHeartbeats 400000 in
theorem smv_zero (a b : Option Addr) (c d : Nat) (w : World) :
    Calls Try.prog 9 #[.slice a 0 c, .slice b 0 d] w fun e w' => e = .returned (.bool true) ∧ w' = w := by
  go_enter Try.func9, Try.ntmps9
  go_wp2_with fail
  go_loop [5, 13] (fun _ s => s = .int .i64 0) (fun _ s => 0)
  case atStart => rfl
  case round =>
    subst hrel
    go_wp2_with fail
    go_ret
    exact ⟨rfl, rfl⟩
set_option maxRecDepth 100000 in
set_option maxHeartbeats 1000000 in
theorem smv_some (L : List (Int × Int)) (b o c b' o' c' n : Nat) (w : World) (hn : Hid (L.length = n)) (hl : n ≤ 1048576) (h1 : FAt w b o L) (h2 : FAt w b' o' L) :
    Calls Try.prog 9 #[.slice (some ⟨b, o, none⟩) n c, .slice (some ⟨b', o', none⟩) n c'] w fun e w' => e = .returned (.bool true) ∧ ∃ m, w' = w.drewN m := by
  have hne : ((n : Int) != (n : Int)) = false := by simp
  have H1 := hide h1
  have H2 := hide h2
  clear h1 h2
  go_enter Try.func9, Try.ntmps9
  go_wp2_with fail
  go_loopw [5, 13] (fun _ s wr => ∃ k : Nat, s = .int .i64 k ∧ k ≤ n ∧ ∃ m, wr = w.drewN m) (fun _ s _ => n - (intOf s).toNat)
  case atStart => exact ⟨0, rfl, Nat.zero_le _, 0, rfl⟩
  case round =>
    obtain ⟨k, rfl, hk, m, rfl⟩ := hrel
    by_cases hlt : k < n
    · obtain ⟨r1, r2⟩ := H1.out k (by rw [hn.out]; exact hlt)
      obtain ⟨r3, r4⟩ := H2.out k (by rw [hn.out]; exact hlt)
      have i0 : (0 : Int) ≤ (k : Int) := by omega
      have i1 : (k : Int) < (n : Int) := by omega
      generalize (L.getD k (0, 0)).1 = x at *
      generalize (L.getD k (0, 0)).2 = y at *
      go_wp2_with fail
      go_region
      go_wp2_with fail
      exact ⟨⟨k + 1, by go_num, by omega, m + 1, rfl⟩, by simp only [intOf]; omega⟩
    · go_wp2_with fail
      go_ret
      exact ⟨rfl, m, rfl⟩
theorem smv {a b : Option Addr} {c d n : Nat} {L : List (Int × Int)} {w : World} (hn : Hid (L.length = n)) (hl : n ≤ 1048576) (h1 : FRow w a L) (h2 : FRow w b L) :
    Calls Try.prog 9 #[.slice a n c, .slice b n d] w fun e w' => e = .returned (.bool true) ∧ Below w.heap.size w w' := by
  rcases h1 with rfl | ⟨b1, o1, rfl, hb1, c1⟩
  · have := hn.out
    simp at this
    subst this
    exact (smv_zero a b c d w).mono fun e w' ⟨h, hw⟩ => ⟨h, hw ▸ Below.refl _ _⟩
  · rcases h2 with rfl | ⟨b2, o2, rfl, hb2, c2⟩
    · have := hn.out
      simp at this
      subst this
      exact (smv_zero _ b c d w).mono fun e w' ⟨h, hw⟩ => ⟨h, hw ▸ Below.refl _ _⟩
    · exact (smv_some L b1 o1 c b2 o2 d n w hn hl c1 c2).mono fun e w' ⟨h, m, hw⟩ => ⟨h, hw ▸ below_drewN (Below.refl _ _) m⟩
end Go.Proofs.Ytbhgdkkclefpnaa
namespace Go.Proofs.Ytbhgdkkclefpnaa
open Go.RowKit

def DOPost (w : World) (e : Ending) (w' : World) : Prop :=
  ∃ a c xs, ∃ (n : Nat) (F T : Int), e = .returned (.tuple #[.slice a n c, .agg #[.int .i64 F, .int .i64 T]]) ∧ List.length xs = n ∧ n ≤ c ∧ n ≤ 10 ∧ ARow w' a xs ∧ Below w.heap.size w w'
set_option maxRecDepth 100000 in
set_option maxHeartbeats 2000000 in
theorem drawDO_any {a : Option Addr} {len cap : Nat} {w : World} (hs : Hid (Src w a len)) :
    Calls Try.prog 17 #[.slice a len cap] w (DOPost w) := by
  have HC := hide (cur_new (cap := cap) (hs.out.below (below_alloc w (.cells #[.int .i64 0, .int .i64 0] 40))))
  go_enter Try.func17, Try.ntmps17
  go_wp2_with fail
  rw [World.size_alloc] at HC
  refine (spots_any HC.out (by omega)).mono ?_
  rintro e w1 ⟨n, g, cp, u, xs, ws, rfl, h1, h2, ⟨hx, hw, own1, own2, hgb, hgl⟩, hc1, hk1⟩
  obtain ⟨a1, c1, e1, hc, r1⟩ := own_cap hx own1
  cases e1
  obtain ⟨a2, c2, rfl, hd, r2⟩ := own_cap hw own2
  have hgc1 : g ≠ w.heap.size + 1 := by simp at hgb; omega
  have hgc2 : w.heap.size + 2 ≤ g := by simpa using hgb
  obtain ⟨x0, x1, x2, x3⟩ := hk1.var w.heap.size (by simp; omega) (by omega) (.int .i64 0) (.int .i64 0) (by simp) (by simp) (by simp [go_sem]) (by simp [go_sem])
  have hs1 : w.heap.size + 1 < w1.heap.size := by have := hk1.size; simp at this; omega
  have HB1 : Hid (Below w.heap.size w w1) := hide ((((Below.refl w.heap.size w).alloc (Nat.le_refl _) _).alloc (by simp) _).trans (hk1.below (by omega) (by simp; omega)))
  have HC1 := hide hc1
  have R1 := hide r1
  have HX := hide hx
  clear own1 own2 r1 r2 hc1 hk1 HC hx hw hgb
  go_wp2_with fail
  refine (pick_any 10 (by omega) HC1.out (by omega)).mono ?_
  rintro e w2 ⟨r, rfl, q0, q1, hc2, hk2⟩
  obtain ⟨y0, y1, y2, y3⟩ := hk2.var w.heap.size (by omega) (by omega) _ _ x0 x1 x2 x3
  have hs2 : w.heap.size + 1 < w2.heap.size := Nat.lt_of_lt_of_le hs1 hk2.size
  have R2 := hide (arow_kp R1.out hk2 hgc1)
  have HB2 := hide (HB1.out.trans (hk2.below (B := w.heap.size) (by omega) (by omega)))
  have HC2 := hide hc2
  have hg2 : g < w2.heap.size := Nat.lt_of_lt_of_le hgl hk2.size
  have HSP := hide (sp_any (c := cp) (x := 0) HX.out (by omega) R2.out)
  generalize hid : Ma.idx xs 0 = T0 at HSP
  clear hc2 hk2 R1 HB1 HC1 x0 x1 x2 x3 hid
  go_wp2_with fail
  refine HSP.out.mono ?_
  rintro e w2' ⟨rfl, hw⟩
  obtain rfl : w2 = w2' := hw.symm
  go_wp2_with fail
  have bA := below_alloc w2 (.cells #[.int .i64 (r - 1), .int .i64 T0] 40)
  obtain ⟨z0, z1, z2, z3⟩ := (Kp.of_below (c := w.heap.size + 1) bA).var w.heap.size (by omega) (by omega) _ _ y0 y1 y2 y3
  have v0 : (w2.alloc (.cells #[.int .i64 (r - 1), .int .i64 T0] 40)).cell? ⟨w2.heap.size, 0, none⟩ = some (.int .i64 (r - 1)) := by simp
  have v1 : (w2.alloc (.cells #[.int .i64 (r - 1), .int .i64 T0] 40)).cell? ⟨w2.heap.size, 1, none⟩ = some (.int .i64 T0) := by simp
  have v2 : (w2.alloc (.cells #[.int .i64 (r - 1), .int .i64 T0] 40)).frozen? ⟨w2.heap.size, 0, none⟩ = false := by simp [go_sem]
  have v3 : (w2.alloc (.cells #[.int .i64 (r - 1), .int .i64 T0] 40)).frozen? ⟨w2.heap.size, 1, none⟩ = false := by simp [go_sem]
  have HBA := hide (HB2.out.trans (bA.mono HB2.out.size))
  refine (one_any 6 (by omega) (HC2.out.below bA) (by omega)).mono ?_
  rintro e w3 ⟨r3, rfl, hc3, hk3⟩
  obtain ⟨a0, a1', a2', a3⟩ := hk3.var w.heap.size (by simp; omega) (by omega) _ _ z0 z1 z2 z3
  obtain ⟨b0, b1, b2, b3⟩ := hk3.var w2.heap.size (by simp) (by omega) _ _ v0 v1 v2 v3
  have hs3 : w2.heap.size < w3.heap.size := by have := hk3.size; simp at this; omega
  have R3 := hide (arow_kp (arow_kp R2.out (Kp.of_below (c := w.heap.size + 1) bA) hgc1) hk3 hgc1)
  have HB3 := hide (HBA.out.trans (hk3.below (B := w.heap.size) (by omega) (by simp; omega)))
  have HC3 := hide hc3
  generalize hV : w2.heap.size = V at *
  clear hc3 hk3 R2 HBA HC2 HB2 bA z0 z1 z2 z3 v0 v1 v2 v3 y0 y1 y2 y3 HSP
  cases r3
  · go_wp2_with fail
    go_region
    go_wp2_with fail
    refine bodyPost_ret (v := .tuple #[.slice (some ⟨g, 0, none⟩) n cp, .agg #[.int .i64 (r - 1), .int .i64 (T0)]]) (by simp [results, Try.results17, go_sem, *]) rfl ⟨_, cp, xs, n, r - 1, T0, rfl, HX.out, hc, h2, ?_, below_drewN ((HB3.out.setCell (p := ⟨w.heap.size, 0, none⟩) (Nat.le_refl _) _).setCell (p := ⟨w.heap.size, 1, none⟩) (Nat.le_refl _) _) 1⟩
    exact arow_same R3.out (by simp) fun _ => (Below.heap_setCell _ ⟨w.heap.size, 1, none⟩ _ g (by show g ≠ w.heap.size; omega)).trans (Below.heap_setCell _ ⟨w.heap.size, 0, none⟩ _ g (by show g ≠ w.heap.size; omega))
  · go_wp2_with fail
    refine (pick_any 11 (by omega) HC3.out (by omega)).mono ?_
    rintro e w4 ⟨r4, rfl, q2, q3, hc4, hk4⟩
    obtain ⟨d0, d1, d2, d3⟩ := hk4.var w.heap.size (by omega) (by omega) _ _ a0 a1' a2' a3
    obtain ⟨e0, e1, e2, e3⟩ := hk4.var V (by omega) (by omega) _ _ b0 b1 b2 b3
    have R4 := hide (arow_kp R3.out hk4 hgc1)
    have HB4 := hide (HB3.out.trans (hk4.below (B := w.heap.size) (by omega) (by omega)))
    have nV : g ≠ V := by omega
    have nW : w.heap.size ≠ V := by omega
    have R5 : Hid (ARow (w4.setCell ⟨V, 1, none⟩ (.int .i64 (r4 - 1))) (some ⟨g, 0, none⟩) xs) := hide (arow_same R4.out (by simp) fun _ => Below.heap_setCell _ ⟨V, 1, none⟩ _ g nV)
    have HB5 := hide (HB4.out.setCell (p := ⟨V, 1, none⟩) (by show w.heap.size ≤ V; omega) (.int .i64 (r4 - 1)))
    have gg0 : (w4.setCell ⟨V, 1, none⟩ (.int .i64 (r4 - 1))).cell? ⟨w.heap.size, 0, none⟩ = some (.int .i64 0) := (World.cell?_of_block (w := w4) (Below.heap_setCell _ ⟨V, 1, none⟩ _ _ nW)).trans d0
    have gg1 : (w4.setCell ⟨V, 1, none⟩ (.int .i64 (r4 - 1))).cell? ⟨w.heap.size, 1, none⟩ = some (.int .i64 0) := (World.cell?_of_block (w := w4) (Below.heap_setCell _ ⟨V, 1, none⟩ _ _ nW)).trans d1
    have hh0 : (w4.setCell ⟨V, 1, none⟩ (.int .i64 (r4 - 1))).cell? ⟨V, 0, none⟩ = some (.int .i64 (r - 1)) := (World.cell?_setCell_other _ _ _ _ (by simp)).trans e0
    have hh1 : (w4.setCell ⟨V, 1, none⟩ (.int .i64 (r4 - 1))).cell? ⟨V, 1, none⟩ = some (.int .i64 (r4 - 1)) := World.cell?_setCell_same _ _ _ e1
    clear hc4 hk4 R3 HB3 HC3 R4 HB4 a0 a1' a2' a3 b0 b1 b2 b3
    go_wp2_with fail
    go_region
    go_wp2_with fail
    refine bodyPost_ret (v := .tuple #[.slice (some ⟨g, 0, none⟩) n cp, .agg #[.int .i64 (r - 1), .int .i64 (r4 - 1)]]) (by simp [results, Try.results17, go_sem, *]) rfl ⟨_, cp, xs, n, r - 1, r4 - 1, rfl, HX.out, hc, h2, ?_, below_drewN ((HB5.out.setCell (p := ⟨w.heap.size, 0, none⟩) (Nat.le_refl _) _).setCell (p := ⟨w.heap.size, 1, none⟩) (Nat.le_refl _) _) 1⟩
    exact arow_same R5.out (by simp) fun _ => (Below.heap_setCell _ ⟨w.heap.size, 1, none⟩ _ g (by show g ≠ w.heap.size; omega)).trans (Below.heap_setCell _ ⟨w.heap.size, 0, none⟩ _ g (by show g ≠ w.heap.size; omega))
end Go.Proofs.Ytbhgdkkclefpnaa
namespace Go.Proofs.Ytbhgdkkclefpnaa
open Go.RowKit

open Classical in
theorem ans_sum {n : Nat} {xs ws : List Int} {A R : Int} (hx : xs.length = n) (hs : Mx.sameB xs ws = true) (h : Ans xs ws A R) : A + R = (Mv.need n (Mx.fn xs) (Mx.fn ws) : Nat) := by
  rcases h with ⟨_, a, r, rfl, rfl, h1, h2⟩ | ⟨h, _⟩
  · rw [hx] at h1 h2
    have e1 : Mv.away n (Mx.fn xs) (Mx.fn ws) = a := h1
    have e2 : Mv.rings n (Mv.nxt n (Mx.fn xs) (Mx.fn ws)) = r := h2
    unfold Mv.need
    rw [e1, e2]
    omega
  · rw [hs] at h; cases h
theorem run_ok : ∀ (l : List (Int × Int)) {xs ys : List Int}, xs.length ≤ 9 → Mx.run xs l = some ys → l.all okM = true
  | [], _, _, _, _ => rfl
  | m :: l, xs, ys, hx, h => by
    simp only [Mx.run] at h
    split at h
    · rename_i hc
      have hi := Mx.can_in hc
      have h2 := run_ok l (by rw [Mx.mv_len]; exact hx) h
      have h1 : okM m = true := by
        unfold okM Pf.inB
        simp only [Bool.and_eq_true, decide_eq_true_eq]
        omega
      rw [List.all_cons, h1, h2]; rfl
    · cases h
structure MoF (xs ws : List Int) (L : List (Int × Int)) (n m : Nat) (A R : Int) : Prop where
  few : (m : Int) = A + R
  d1 : Mx.dmB xs L = true
  d2 : Mx.dmL xs L = ws
  b1 : bkB L = true
  b2 : bkL L = backL L
  b3 : (backL L).length = m
  e1 : Mx.dmB ws (backL L) = true
  e2 : Mx.dmL ws (backL L) = xs
theorem mo_facts {xs ws : List Int} {n m : Nat} {A R : Int} (hx : xs.length = n) (hs : Mx.sameB xs ws = true) (h : Ans xs ws A R) (hm : (Mx.pmL xs ws).length = m) : MoF xs ws (Mx.pmL xs ws) n m A R := by
  obtain ⟨g1, g2, hp⟩ := Mx.same_good hs
  obtain ⟨r1, r2⟩ := Mx.pm_facts hx hs
  have hl := pmL_le xs ws
  have hsum := ans_sum hx hs h
  have hb : Mx.run ws (backL (Mx.pmL xs ws)) = some xs := Mx.run_back _ r1
  have hbl := backL_len (Mx.pmL xs ws)
  obtain ⟨c1, c2⟩ := Mx.dm_yes g1 hl r1
  obtain ⟨c3, c4⟩ := Mx.dm_yes g2 (by omega) hb
  have hbk : bkB (Mx.pmL xs ws) = true := by
    unfold bkB
    rw [run_ok _ (Mx.good_len g1).2 r1]
    simpa using hl
  exact ⟨by omega, c1, c2, hbk, by unfold bkL; rw [if_pos hbk], by omega, c3, c4⟩
theorem mo_few {xs : List Int} {L : List (Int × Int)} {A R : Int} (hd : Mx.dmB xs L = true) (h : Ans xs (Mx.dmL xs L) A R) : Mx.sameB xs (Mx.dmL xs L) = true ∧ ¬ (L.length : Int) < A + R := by
  simp only [Mx.dmB, Bool.and_eq_true, decide_eq_true_eq] at hd
  obtain ⟨g, hl, hr⟩ := hd
  obtain ⟨ys, hy⟩ := Option.isSome_iff_exists.1 hr
  have e := (Mx.dm_yes g hl hy).2
  rw [e] at h ⊢
  have hs := Mx.same_of g (Mx.run_perm L hy).symm
  have h1 := ans_sum rfl hs h
  have h2 := Mx.need_run rfl hs hy
  have h3 := (Mv.need_zero (Mx.same_two (Mx.same_of (Mx.same_good hs).2.1 (List.Perm.refl ys)) (Mx.run_len L hy)).2).2 fun i _ => rfl
  exact ⟨hs, by omega⟩
theorem dm_is {a b : Option Addr} {n c m d k : Nat} {xs ys : List Int} {L : List (Int × Int)} {B : Bool} {w : World} (hx : xs.length = n) (hc : n ≤ c) (ha : ARow w a xs) (hl : L.length = m) (hf : FRow w b L) (h1 : Mx.dmB xs L = B) (h2 : Mx.dmL xs L = ys) (hk : ys.length = k) :
    Calls Try.prog 12 #[.slice a n c, .slice b m d] w fun e w' => ∃ a' c', e = .returned (.tuple #[.slice a' k c', .bool B]) ∧ k ≤ c' ∧ Below w.heap.size w w' ∧ ARow w' a' ys := by
  refine (dm_w (d := d) hx hc ha hl hf).mono ?_
  rintro e w' ⟨v, rfl, hb, hav⟩
  rw [h2, hk] at hav
  obtain ⟨a', c', rfl, hc', r⟩ := own_cap hk hav.1
  exact ⟨a', c', by rw [h1], hc', hb, r⟩
theorem sdm_is {a b : Option Addr} {n c m d k : Nat} {xs ys : List Int} {L : List (Int × Int)} {B : Bool} {w : World} (hx : xs.length = n) (hc : n ≤ c) (ha : ARow w a xs) (hl : L.length = m) (hf : FRow w b L) (h1 : Mx.dmB xs L = B) (h2 : Mx.dmL xs L = ys) (hk : ys.length = k) :
    Calls Try.prog 16 #[.slice a n c, .slice b m d] w fun e w' => ∃ a' c', e = .returned (.tuple #[.slice a' k c', .bool B]) ∧ k ≤ c' ∧ Below w.heap.size w w' ∧ ARow w' a' ys := by
  refine (sdm_w (d := d) hx hc ha hl hf).mono ?_
  rintro e w' ⟨v, rfl, hb, hav⟩
  rw [h2, hk] at hav
  obtain ⟨a', c', rfl, hc', r⟩ := own_cap hk hav.1
  exact ⟨a', c', by rw [h1], hc', hb, r⟩
theorem bk_is {a : Option Addr} {n c k : Nat} {L M : List (Int × Int)} {B : Bool} {w : World} (hl : L.length = n) (ha : FRow w a L) (h1 : bkB L = B) (h2 : bkL L = M) (hk : M.length = k) :
    Calls Try.prog 13 #[.slice a n c] w fun e w' => ∃ a' c', e = .returned (.tuple #[.slice a' k c', .bool B]) ∧ Below w.heap.size w w' ∧ FRow w' a' M := by
  refine (bk_w (c := c) hl ha).mono ?_
  rintro e w' ⟨v, rfl, hb, hmo⟩
  rw [h2, hk] at hmo
  obtain ⟨a', c', rfl, r⟩ := hmo.row
  exact ⟨a', c', by rw [h1], hb, r⟩
theorem sbk_is {a : Option Addr} {n c k : Nat} {L M : List (Int × Int)} {B : Bool} {w : World} (hl : L.length = n) (hn : n ≤ 1048576) (ha : FRow w a L) (h1 : bkB L = B) (h2 : bkL L = M) (hk : M.length = k) :
    Calls Try.prog 21 #[.slice a n c] w fun e w' => ∃ a' c', e = .returned (.tuple #[.slice a' k c', .bool B]) ∧ Below w.heap.size w w' ∧ FRow w' a' M := by
  refine (sbk_w (c := c) hl hn ha).mono ?_
  rintro e w' ⟨v, rfl, hb, hmo⟩
  rw [h2, hk] at hmo
  obtain ⟨a', c', rfl, r⟩ := hmo.row
  exact ⟨a', c', by rw [h1], hb, r⟩
theorem pm_is {a b : Option Addr} {n m c d k : Nat} {xs ws : List Int} {M : List (Int × Int)} {B : Bool} {w : World} (hx : xs.length = n) (hy : ws.length = m) (hc : n ≤ c) (hd : m ≤ d) (ha : ARow w a xs) (hb : ARow w b ws) (h1 : Mx.sameB xs ws = B) (h2 : Mx.pmL xs ws = M) (hk : M.length = k) :
    Calls Try.prog 5 #[.slice a n c, .slice b m d] w fun e w' => ∃ a' c', e = .returned (.tuple #[.slice a' k c', .bool B]) ∧ Below w.heap.size w w' ∧ FRow w' a' M := by
  refine (pm_w hx hy hc hd ha hb).mono ?_
  rintro e w' ⟨v, rfl, hb, hmo⟩
  rw [h2, hk] at hmo
  obtain ⟨a', c', rfl, r⟩ := hmo.row
  exact ⟨a', c', by rw [h1], hb, r⟩
theorem spm_is {a b : Option Addr} {n m c d k : Nat} {xs ws : List Int} {M : List (Int × Int)} {B : Bool} {w : World} (hx : xs.length = n) (hy : ws.length = m) (hc : n ≤ c) (hd : m ≤ d) (ha : ARow w a xs) (hb : ARow w b ws) (h1 : Mx.sameB xs ws = B) (h2 : Mx.pmL xs ws = M) (hk : M.length = k) :
    Calls Try.prog 6 #[.slice a n c, .slice b m d] w fun e w' => ∃ a' c', e = .returned (.tuple #[.slice a' k c', .bool B]) ∧ Below w.heap.size w w' ∧ FRow w' a' M := by
  refine (spm_w hx hy hc hd ha hb).mono ?_
  rintro e w' ⟨v, rfl, hb, hmo⟩
  rw [h2, hk] at hmo
  obtain ⟨a', c', rfl, r⟩ := hmo.row
  exact ⟨a', c', by rw [h1], hb, r⟩
theorem do_is {a : Option Addr} {n c k : Nat} {xs ys : List Int} {F T : Int} {B : Bool} {w : World} (hx : xs.length = n) (hc : n ≤ c) (ha : ARow w a xs) (h1 : Mx.dmB xs [(F, T)] = B) (h2 : Mx.dmL xs [(F, T)] = ys) (hk : ys.length = k) :
    Calls Try.prog 18 #[.slice a n c, .agg #[.int .i64 F, .int .i64 T]] w fun e w' => ∃ a' c', e = .returned (.tuple #[.slice a' k c', .bool B]) ∧ Below w.heap.size w w' ∧ ARow w' a' ys := by
  refine (do_w hx hc ha).mono ?_
  rintro e w' ⟨v, rfl, hb, hav⟩
  rw [h2, hk] at hav
  obtain ⟨a', c', rfl, _, r⟩ := own_cap hk hav.1
  exact ⟨a', c', by rw [h1], hb, r⟩
theorem sdo_is {a : Option Addr} {n c k : Nat} {xs ys : List Int} {F T : Int} {B : Bool} {w : World} (hx : xs.length = n) (hc : n ≤ c) (ha : ARow w a xs) (h1 : Mx.dmB xs [(F, T)] = B) (h2 : Mx.dmL xs [(F, T)] = ys) (hk : ys.length = k) :
    Calls Try.prog 19 #[.slice a n c, .agg #[.int .i64 F, .int .i64 T]] w fun e w' => ∃ a' c', e = .returned (.tuple #[.slice a' k c', .bool B]) ∧ Below w.heap.size w w' ∧ ARow w' a' ys := by
  refine (sdo_w hx hc ha).mono ?_
  rintro e w' ⟨v, rfl, hb, hav⟩
  rw [h2, hk] at hav
  obtain ⟨a', c', rfl, _, r⟩ := own_cap hk hav.1
  exact ⟨a', c', by rw [h1], hb, r⟩
theorem si_same {a b : Option Addr} {c d n : Nat} {xs : List Int} {w : World} (hx : Hid (xs.length = n)) (hl : n ≤ 1048576) (h1 : ARow w a xs) (h2 : ARow w b xs) :
    Calls Try.prog 14 #[.slice a n c, .slice b n d] w fun e w' => e = .returned (.bool true) ∧ Below w.heap.size w w' := by
  refine (si10 hx hx hl h1 h2).mono ?_
  rintro e w' ⟨rfl, hb⟩
  exact ⟨by simp, hb⟩
end Go.Proofs.Ytbhgdkkclefpnaa
