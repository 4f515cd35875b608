/-
  At any sheet and ways HouseFor answers as the model does, in memory of its own: the law's own walk.
-/
import Derived.Test.YtlbagigghpiifaaGreatZ4
import Derived.Deep.DeepCutAuto
import Derived.Deep.RegionHeld3
namespace Go.Proofs.YtlbagigghpiifaaGreat
open Go.RowKit

/-- What HouseFor answers at a sheet and ways, whoever answers. -/
def HfAns (f n n' nw : Nat) (ok : Bool) (gs : List Gd) (ls : List (Int × Int)) (ws A B C : List Int) : Prop :=
  ∀ (W : World) (X Y : Nat) (a : Option Addr) (c : Nat), Short gs → TS W X Y n n' gs ls → ARow W a ws →
    Calls Tryz.prog f #[.agg #[.slice (some ⟨X, 0, none⟩) n n, .slice (some ⟨Y, 0, none⟩) n' n'], .slice a nw c] W fun e w' => ∃ v0 v1 v2, e = .returned (.tuple #[.agg #[v0, v1, v2], .bool ok]) ∧ Below W.heap.size W w' ∧ HV W.heap.size A B C v0 v1 v2 w'
theorem TS.loose17 {w : World} {X Y n n' : Nat} {gs : List Gd} {ls : List (Int × Int)} (t : TS w X Y n n' gs ls) : LooseV w (.slice (some ⟨X, 0, none⟩) n n) n ∧ LooseV w (.slice (some ⟨Y, 0, none⟩) n' n') n' :=
  ⟨Or.inr ⟨X, n, rfl, t.lx, t.lg⟩, Or.inr ⟨Y, n', rfl, t.ly, t.ll⟩⟩
theorem own_off17 {x b : Nat} (h : x ≠ b) (n c : Nat) : some x ≠ (Value.slice (some ⟨b, 0, none⟩) n c).ownBlock := fun e => h (by injection e)
/-- What was handed in, and the model's house in its variable. -/
structure LA (w : World) (D : Nat) (pa pb v0 v1 v2 : Value) (A B C : List Int) (W : World) : Prop where
  p : PBox W w.heap.size pa pb
  v : HBox W D v0 v1 v2
  V : HV 0 A B C v0 v1 v2 W
  hV : ∀ g, HIn v0 v1 v2 g → g < D
  lt : w.heap.size < D
  b : Below w.heap.size w W
theorem LA.keep {w W W' : World} {D : Nat} {pa pb v0 v1 v2 : Value} {A B C : List Int} (h : LA w D pa pb v0 v1 v2 A B C W) (ho : W'.os = W.os) (ht : W'.tape = W.tape) (hp : W'.output = W.output) (hs : W.heap.size ≤ W'.heap.size) (hb : ∀ b, b < W.heap.size → b ≤ D → W'.heap[b]? = W.heap[b]?) : LA w D pa pb v0 v1 v2 A B C W' :=
  ⟨h.p.keep hs (hb _ h.p.2.2 (Nat.le_of_lt h.lt)), h.v.keep hs (hb _ h.v.2.2.2 (Nat.le_refl _)), h.V.keep fun g hg hl => hb g hl (Nat.le_of_lt (h.hV g hg)), h.hV, h.lt,
    h.b.trans ⟨ho, ht, hp, hs, fun b hl => hb b (Nat.lt_of_lt_of_le hl h.b.size) (Nat.le_of_lt (Nat.lt_trans hl h.lt))⟩⟩
theorem LA.below {w W W' : World} {D : Nat} {pa pb v0 v1 v2 : Value} {A B C : List Int} (h : LA w D pa pb v0 v1 v2 A B C W) (hb : Below W.heap.size W W') : LA w D pa pb v0 v1 v2 A B C W' :=
  h.keep hb.os hb.tape hb.output hb.size fun b hl _ => hb.block b hl
/-- The program's house in its variable. -/
structure LG (lo D : Nat) (g0 g1 g2 : Value) (A B C : List Int) (W : World) : Prop where
  v : HBox W D g0 g1 g2
  V : HV lo A B C g0 g1 g2 W
  hV : ∀ g, HIn g0 g1 g2 g → g < D
  lt : lo ≤ D
theorem LG.keep {W W' : World} {lo D : Nat} {g0 g1 g2 : Value} {A B C : List Int} (h : LG lo D g0 g1 g2 A B C W) (hs : W.heap.size ≤ W'.heap.size) (hb : ∀ b, b < W.heap.size → lo ≤ b → W'.heap[b]? = W.heap[b]?) : LG lo D g0 g1 g2 A B C W' :=
  ⟨h.v.keep hs (hb _ h.v.2.2.2 h.lt), h.V.keep fun g hg hl => hb g hl (h.V.lt hg).1, h.hV, h.lt⟩
theorem LG.below {W W' : World} {lo D : Nat} {g0 g1 g2 : Value} {A B C : List Int} (h : LG lo D g0 g1 g2 A B C W) (hb : Below W.heap.size W W') : LG lo D g0 g1 g2 A B C W' := h.keep hb.size fun b hl _ => hb.block b hl
/-- A house that a call answered, put in a variable behind it. -/
theorem LG.mk' {W W1 W' : World} {A B C : List Int} {g0 g1 g2 : Value} {lo : Nat} (h : HV W.heap.size A B C g0 g1 g2 W1) (h1 : lo ≤ W.heap.size) (hs : W.heap.size ≤ W1.heap.size) (t : TypeId) (hW : W' = W1.alloc (.cells #[g0, g1, g2] t)) : LG lo W1.heap.size g0 g1 g2 A B C W' := by
  subst hW
  exact ⟨HBox.new _ _ _ _ _, (h.low h1).below (below_new _ _), fun g hg => (h.lt hg).2, Nat.le_trans h1 hs⟩
set_option maxRecDepth 100000 in
set_option maxHeartbeats 8000000 in
theorem lHf17_main {a a' aw : Option Addr} {n c n' c' nw cw : Nat} {ok : Bool} {gs : List Gd} {ls : List (Int × Int)} {ws A B C : List Int} {w : World} (HN : Hid (gs.length = n)) (HM : Hid (n ≤ maxLen)) (HF : Hid (Fits gs)) (HA : Hid (GRow w a gs)) (HN' : Hid (ls.length = n')) (HM' : Hid (n' ≤ maxLen)) (HA' : Hid (LRow w a' ls))
    (HW : Hid (ws.length = nw)) (HWA : Hid (ARow w aw ws)) (lA : A.length ≤ 1000) (lB : B.length ≤ 1000) (lC : C.length ≤ 1000)
    (HS : Hid (n ≤ 1048576 → n' ≤ 1048576 → nw ≤ 1048576 → HfAns 5 n n' nw ok gs ls ws A B C)) (HI : Hid (n ≤ 1048576 → n' ≤ 1048576 → nw ≤ 1048576 → HfAns 8 n n' nw ok gs ls ws A B C)) :
    Calls Tryz.prog 3 #[.agg #[.slice a n c, .slice a' n' c'], .slice aw nw cw] w fun e w' => e = .returned (.bool true) ∧ Below w.heap.size w w' := by
  have hne : (ok != ok) = false := by simp
  have HB0 := hide (below_new w (.cells #[.slice a n c, .slice a' n' c'] 25))
  have P0 := hide (PBox.new w (.slice a n c) (.slice a' n' c') 25)
  by_cases hw : nw ≤ 1048576
  · have i0 : ¬ (1048576 : Int) < (nw : Int) := by omega
    go_enter Tryz.func3, Tryz.ntmps3
    go_wp2_with fail
    refine (szSh_any HN HM HF (hide (HA.out.below HB0.out)) HM' (by omega) (by omega)).mono ?_
    rintro e w1 ⟨left, rfl, hl1, hl2, hb1⟩
    have P1 := hide (P0.out.below hb1)
    have HB1 := hide (HB0.out.trans (hb1.mono HB0.out.size))
    clear hb1
    obtain ⟨p0, p1, _⟩ := P1.out
    rcases hl2 with rfl | ⟨hl0, hn, hn', hsh⟩
    · go_wp2_with fail
      go_ret
      exact ⟨rfl, HB1.out⟩
    have HSh := hide hsh
    have hl3 : ¬ left < 0 := by omega
    have HTS := hide fun (W : World) (hb : Below w.heap.size w W) => toSh_any (c := c) (c' := c') HN hn (hide (HA.out.below hb)) HN' hn' (hide (HA'.out.below hb))
    have HTI := hide fun (W : World) (hb : Below w.heap.size w W) => toI_own aw cw nw ws W HW.out hw (HWA.out.below hb)
    have HSC := hide fun (W : World) (X Y : Nat) (q : Option Addr) (d : Nat) (t : TS W X Y n n' gs ls) (r : ARow W q ws) => HS.out hn hn' hw W X Y q d HSh.out t r
    have HIC := hide fun (W : World) (X Y : Nat) (q : Option Addr) (d : Nat) (t : TS W X Y n n' gs ls) (r : ARow W q ws) => HI.out hn hn' hw W X Y q d HSh.out t r
    clear hsh HS HI
    go_wp2_with fail
    refine (HTS.out _ HB1.out).mono ?_
    rintro e w2 ⟨X2, Y2, rfl, hb2, _, _, t2⟩
    have T2 := hide t2
    have P2 := hide (P1.out.below hb2)
    have HB2 := hide (HB1.out.trans (hb2.mono HB1.out.size))
    clear hb2 t2 p0 p1 P0 P1 HB0 HB1
    go_wp2_with fail
    refine (HTI.out _ HB2.out).mono ?_
    rintro e w3 ⟨rfl, hb3, _, ow3⟩
    have R3 := hide (arow_owns HW.out.symm ow3)
    have T3 := hide (T2.out.below hb3)
    have P3 := hide (P2.out.below hb3)
    have HB3 := hide (HB2.out.trans (hb3.mono HB2.out.size))
    clear hb3 ow3 T2 P2 HB2
    go_wp2_with fail
    refine (HSC.out _ _ _ _ _ T3.out R3.out).mono ?_
    rintro e w4 ⟨v0, v1, v2, rfl, hb4, hv4⟩
    obtain ⟨e0, f0, e1, f1, e2, f2, rfl, rfl, rfl⟩ := hv4.form
    have z4 := hb4.size
    have HP4 := P3.out.below hb4
    have bn4 := below_new w4 (.cells #[.slice e0 A.length f0, .slice e1 B.length f1, .slice e2 C.length f2] 29)
    have HL4 : Hid (LA w w4.heap.size (.slice a n c) (.slice a' n' c') (.slice e0 A.length f0) (.slice e1 B.length f1) (.slice e2 C.length f2) A B C (w4.alloc (.cells #[.slice e0 A.length f0, .slice e1 B.length f1, .slice e2 C.length f2] 29))) :=
      hide ⟨HP4.below bn4, HBox.new _ _ _ _ _, (hv4.low (Nat.zero_le _)).below bn4, fun g hg => (hv4.lt hg).2, HP4.2.2, (HB3.out.trans (hb4.mono HB3.out.size)).trans (bn4.mono (HB3.out.trans (hb4.mono HB3.out.size)).size)⟩
    clear hb4 bn4 hv4 HP4 T3 R3 P3 HB3 z4
    go_upto_region 8 with fail
    generalize w4.alloc (.cells #[.slice e0 A.length f0, .slice e1 B.length f1, .slice e2 C.length f2] 29) = W4 at *
    generalize w4.heap.size = D4 at *
    obtain ⟨p0, p1, _⟩ := HL4.out.p
    go_wp2_with fail
    refine (HTS.out _ HL4.out.b).mono ?_
    rintro e w5 ⟨X5, Y5, rfl, hb5, hX5, hY5, t5⟩
    have bn5 := below_new w5 (.cells #[.slice (some ⟨X5, 0, none⟩) n n, .slice (some ⟨Y5, 0, none⟩) n' n'] 35)
    have PX5 := hide (PBox.new w5 (.slice (some ⟨X5, 0, none⟩) n n) (.slice (some ⟨Y5, 0, none⟩) n' n') 35)
    have HL5 := hide ((HL4.out.below hb5).below bn5)
    have T5 := hide (t5.below bn5)
    have hD4 := HL4.out.v.2.2.2
    have hX5' : D4 < X5 := by omega
    have hY5' : D4 < Y5 := by omega
    have hX5s := t5.lx
    have hY5s := t5.ly
    clear hb5 bn5 t5 p0 p1 HL4 hX5 hY5 hD4
    go_upto_region 9 with fail
    generalize w5.alloc (.cells #[.slice (some ⟨X5, 0, none⟩) n n, .slice (some ⟨Y5, 0, none⟩) n' n'] 35) = W5 at *
    generalize w5.heap.size = D6 at *
    go_wp2_with fail
    refine (HTI.out _ HL5.out.b).mono ?_
    rintro e w6 ⟨rfl, hb6, hz6, ow6⟩
    have HL6 := hide (HL5.out.below hb6)
    have PX6 := hide (PX5.out.below hb6)
    have T6 := hide (T5.out.below hb6)
    have O6 := hide ow6
    have hD6 : D6 < W5.heap.size := PX5.out.2.2
    generalize W5.heap.size = g9 at *
    have hz := PX6.out.2.2
    clear hb6 ow6 HL5 PX5 T5 hz
    obtain ⟨x0, x1, _⟩ := PX6.out
    go_wp2_with fail
    refine (HIC.out _ _ _ _ _ T6.out (arow_owns HW.out.symm O6.out)).mono ?_
    rintro e w7 ⟨u0, u1, u2, rfl, hb7, hv7⟩
    obtain ⟨i0', j0, i1', j1, i2', j2, rfl, rfl, rfl⟩ := hv7.form
    have bn7 := below_new w7 (.cells #[.slice i0' A.length j0, .slice i1' B.length j1, .slice i2' C.length j2] 29)
    have b67 := hb7.trans (bn7.mono hb7.size)
    have HL7 := hide (HL6.out.below b67)
    have PX7 := hide (PX6.out.below b67)
    have T7 := hide (T6.out.below b67)
    have O7 := hide (own_below O6.out b67)
    have HG7 := hide (LG.mk' (lo := g9 + 1) hv7 hz6 hb7.size 29 rfl)
    clear hb7 bn7 b67 hv7 HL6 PX6 T6 O6 x0 x1
    go_upto_region 11 with fail
    generalize w7.alloc (.cells #[.slice i0' A.length j0, .slice i1' B.length j1, .slice i2' C.length j2] 29) = W7 at *
    generalize w7.heap.size = D8 at *
    obtain ⟨v0, v1, v2, _⟩ := HL7.out.v
    obtain ⟨s0, s1, s2, _⟩ := HG7.out.v
    go_wp2_with fail
    refine (eqHV (by omega) (by omega) (by omega) HG7.out.V HL7.out.V).mono ?_
    rintro e w8 ⟨rfl, hb8⟩
    have HL8 := hide (HL7.out.below hb8)
    have PX8 := hide (PX7.out.below hb8)
    have T8 := hide (T7.out.below hb8)
    have O8 := hide (own_below O7.out hb8)
    have HG8 := hide (HG7.out.below hb8)
    clear hb8 HL7 PX7 T7 O7 HG7 v0 v1 v2 s0 s1 s2
    go_upto_region 13 with fail
    refine wp_region_noPanic ?_
    refine wp_region_held_drew (S := fun w' => Below w8.heap.size w8 w') (by kernel_rfl) ((Below.refl _ _).drew) (fun hHeld => ?_)
    refine wpAnyH_take (i := 0) (oi := ⟨some 52, _, _, _, _, none⟩) (v := .agg #[.slice (some ⟨X5, 0, none⟩) n n, .slice (some ⟨Y5, 0, none⟩) n' n']) rfl (by kernel_rfl) (by kernel_rfl) (by kernel_rfl) (fun _ _ _ h => h) (Or.inl ⟨by rfl, fun w' hSw => by obtain ⟨p0, p1, _⟩ := PX8.out.below hSw; clear hSw; go_simp⟩) hHeld ?_
    simp only [Act.put, List.setIfInBounds_toArray, List.set_cons_zero, List.set_cons_succ]
    refine wpAnyH_take (i := 1) (oi := ⟨some 53, _, _, _, _, none⟩) (v := .agg #[.slice a n c, .slice a' n' c']) rfl (by kernel_rfl) (by kernel_rfl) (by kernel_rfl) (fun _ _ _ h => h) (Or.inl ⟨by rfl, fun w' hSw => by obtain ⟨p0, p1, _⟩ := (HL8.out.below hSw).p; clear hSw; go_simp⟩) hHeld ?_
    simp only [Act.put, List.setIfInBounds_toArray, List.set_cons_zero, List.set_cons_succ]
    refine wpAnyH_ready (rs := [2]) (by kernel_rfl) (by simp) ?_
    refine AllReadyH.cons (o := ⟨some 54, _, _, _, _, none⟩) rfl (fun K hK => ?_) AllReadyH.nil
    go_simp
    refine (HTS.out _ (HL8.out.below hHeld).b).mono ?_
    rintro _ wa ⟨Xa, Ya, rfl, hba, _, _, ta⟩
    refine hK.out _ _ (hHeld.trans (hba.mono hHeld.size)) (fun hHeld' => ?_)
    clear hK K hba hHeld
    have hHeld := hHeld'
    clear hHeld'
    refine wpAnyH_ready (rs := [3]) (by kernel_rfl) (by simp) ?_
    refine AllReadyH.cons (o := ⟨some 55, _, _, _, _, none⟩) rfl (fun K hK => ?_) AllReadyH.nil
    go_simp
    refine (eqSh15 HN hn HN' hn' (T8.out.below hHeld).g (T8.out.below hHeld).l ta.g ta.l).mono ?_
    rintro _ wb ⟨rfl, hbb⟩
    refine hK.out _ _ (hHeld.trans (hbb.mono hHeld.size)) (fun hHeld' => ?_)
    clear hK K hbb hHeld ta
    have hHeld := hHeld'
    clear hHeld'
    refine wpAnyH_take (i := 4) (oi := ⟨some 56, _, _, _, _, none⟩) (v := .bool false) rfl (by kernel_rfl) (by kernel_rfl) (by kernel_rfl) (fun _ _ _ h => h) (Or.inl ⟨by rfl, fun w' hSw => by clear hSw; go_simp⟩) hHeld ?_
    simp only [Act.put, List.setIfInBounds_toArray, List.set_cons_zero, List.set_cons_succ]
    refine wpAnyH_done (by kernel_rfl) ?_ _
    refine NoPanic.normal ?_
    have HL9 := hide (HL8.out.below hHeld)
    have PX9 := hide (PX8.out.below hHeld)
    have T9 := hide (T8.out.below hHeld)
    have O9 := hide (own_below O8.out hHeld)
    have HG9 := hide (HG8.out.below hHeld)
    clear hHeld HL8 PX8 T8 O8 HG8
    go_wp2_with fail
    refine (HTI.out _ HL9.out.b).mono ?_
    rintro e w10 ⟨rfl, hb10, _, ow10⟩
    have HL10 := hide (HL9.out.below hb10)
    have PX10 := hide (PX9.out.below hb10)
    have T10 := hide (T9.out.below hb10)
    have O10 := hide (own_below O9.out hb10)
    have HG10 := hide (HG9.out.below hb10)
    have R10 := hide ow10
    clear hb10 ow10 HL9 PX9 T9 O9 HG9
    go_wp2_with fail
    refine (eqV_any HW.out hw O10.out R10.out).mono ?_
    rintro e w11 ⟨rfl, hb11⟩
    have HL11 := hide (HL10.out.below hb11)
    have PX11 := hide (PX10.out.below hb11)
    have T11 := hide (T10.out.below hb11)
    have O11 := hide (own_below O10.out hb11)
    have HG11 := hide (HG10.out.below hb11)
    clear hb11 HL10 PX10 T10 O10 HG10 R10
    obtain ⟨x0, x1, _⟩ := PX11.out
    go_wp2_with fail
    refine (markSh_v hn hn' (by omega) (by omega) T11.out.loose17.1 T11.out.loose17.2 (fun g h1 h2 => T11.out.ne (by cases h1; cases h2; rfl))).mono ?_
    rintro e w12 ⟨rfl, _, _, ofx⟩
    have HL12 := hide (HL11.out.keep ofx.os ofx.tape ofx.output ofx.size fun b hb hd => ofx.block b hb (own_off17 (by omega) _ _) (own_off17 (by omega) _ _))
    have O12 := hide (own_keep O11.out fun g hg hl => by have hg' : g9 = g := Option.some.inj hg; exact ofx.block g hl (own_off17 (by omega) _ _) (own_off17 (by omega) _ _))
    have HG12 := hide (HG11.out.keep ofx.size fun b hb hd => ofx.block b hb (own_off17 (by omega) _ _) (own_off17 (by omega) _ _))
    clear ofx HL11 PX11 T11 O11 HG11 x0 x1
    go_wp2_with fail
    refine (markV_any HW.out hw (by omega) (by omega) O12.out).mono ?_
    rintro e w13 ⟨rfl, _, hg13⟩
    have HL13 := hide (HL12.out.keep hg13.os hg13.tape hg13.output hg13.size fun b hb hd => hg13.block b hb (own_off17 (by omega) _ _))
    have HG13 := hide (HG12.out.keep hg13.size fun b hb hd => hg13.block b hb (own_off17 (by omega) _ _))
    have hk : ¬ (1 : Int) + (n : Int) * 2 + (n' : Int) * 2 + (nw : Int) < 0 := by omega
    clear hg13 HL12 O12 HG12
    obtain ⟨v0, v1, v2, _⟩ := HL13.out.v
    obtain ⟨s0, s1, s2, _⟩ := HG13.out.v
    go_wp2_with fail
    refine (eqHV (by omega) (by omega) (by omega) HG13.out.V HL13.out.V).mono ?_
    rintro e w14 ⟨rfl, hb14⟩
    have HL14 := hide (HL13.out.below hb14)
    have HG14 := hide (HG13.out.below hb14)
    clear hb14 HL13 HG13 v0 v1 v2 s0 s1 s2
    obtain ⟨s0, s1, s2, _⟩ := HG14.out.v
    go_wp2_with fail
    refine (markHV rfl rfl rfl (by omega) (by omega) (by omega) (by omega) (by omega) HG14.out.V).mono ?_
    rintro e w15 ⟨rfl, hh15, of15⟩
    have HL15 := hide (HL14.out.keep of15.os of15.tape of15.output of15.size fun b hb hd => of15.block b hb fun hi => by have := (HG14.out.V.lt hi).1; omega)
    have HX15 := hide (HG14.out.v.keep of15.size (of15.block _ HG14.out.v.2.2.2 fun hi => Nat.lt_irrefl _ (HG14.out.hV _ hi)))
    have HH15 := hide hh15
    have hq0 : ¬ (1 : Int) + (A.length : Int) + (B.length : Int) + (C.length : Int) < 0 := by omega
    have hq1 : ((1 : Int) + (A.length : Int) + (B.length : Int) + (C.length : Int) != 1 + (A.length : Int) + (B.length : Int) + (C.length : Int)) = false := by simp
    clear of15 hh15 HL14 HG14 s0 s1 s2
    obtain ⟨s0, s1, s2, _⟩ := HX15.out
    go_wp2_with fail
    refine (heldHV (by omega) (by omega) (by omega) (by omega) (by omega) HH15.out).mono ?_
    rintro e w16 ⟨rfl, hb16⟩
    have HL16 := hide (HL15.out.below hb16)
    have HX16 := hide (HX15.out.below hb16)
    have HH16 := hide (HH15.out.below hb16)
    clear hb16 HL15 HX15 HH15 s0 s1 s2
    obtain ⟨p0, p1, _⟩ := HL16.out.p
    go_wp2_with fail
    refine (HTS.out _ HL16.out.b).mono ?_
    rintro e w17 ⟨X17, Y17, rfl, hb17, _, _, t17⟩
    have HL17 := hide (HL16.out.below hb17)
    have HX17 := hide (HX16.out.below hb17)
    have HH17 := hide (HH16.out.below hb17)
    have T17 := hide t17
    clear hb17 t17 HL16 HX16 HH16 p0 p1
    go_wp2_with fail
    refine (HTI.out _ HL17.out.b).mono ?_
    rintro e w18 ⟨rfl, hb18, _, ow18⟩
    have HL18 := hide (HL17.out.below hb18)
    have HX18 := hide (HX17.out.below hb18)
    have HH18 := hide (HH17.out.below hb18)
    have T18 := hide (T17.out.below hb18)
    have R18 := hide (arow_owns HW.out.symm ow18)
    clear hb18 ow18 HL17 HX17 HH17 T17
    go_wp2_with fail
    refine (HIC.out _ _ _ _ _ T18.out R18.out).mono ?_
    rintro e w19 ⟨q0, q1, q2, rfl, hb19, hv19⟩
    obtain ⟨y0, z0, y1, z1, y2, z2, rfl, rfl, rfl⟩ := hv19.form
    have bn19 := below_new w19 (.cells #[.slice y0 A.length z0, .slice y1 B.length z1, .slice y2 C.length z2] 29)
    have b19 := hb19.trans (bn19.mono hb19.size)
    have HL19 := hide (HL18.out.below b19)
    have HX19 := hide (HX18.out.below b19)
    have HH19 := hide (HH18.out.below b19)
    have HV19 := hide (hv19.below bn19)
    clear hb19 bn19 b19 hv19 HL18 HX18 HH18 T18 R18
    obtain ⟨v0, v1, v2, _⟩ := HL19.out.v
    go_wp2_with fail
    refine (eqHV (by omega) (by omega) (by omega) HV19.out HL19.out.V).mono ?_
    rintro e w20 ⟨rfl, hb20⟩
    have HL20 := hide (HL19.out.below hb20)
    have HX20 := hide (HX19.out.below hb20)
    have HH20 := hide (HH19.out.below hb20)
    clear hb20 HL19 HX19 HH19 HV19 v0 v1 v2
    obtain ⟨s0, s1, s2, _⟩ := HX20.out
    go_wp2_with fail
    refine (heldHV (by omega) (by omega) (by omega) (by omega) (by omega) HH20.out).mono ?_
    rintro e w21 ⟨rfl, hb21⟩
    have HB21 := hide (HL20.out.below hb21).b
    clear hb21 HL20 HX20 HH20 s0 s1 s2
    go_wp2_with fail
    go_ret
    exact ⟨rfl, HB21.out⟩
  · have i0 : (1048576 : Int) < (nw : Int) := by omega
    go_enter Tryz.func3, Tryz.ntmps3
    go_wp2_with fail
    go_ret
    exact ⟨rfl, HB0.out⟩
theorem hf_both {gs : List Gd} {ls : List (Int × Int)} {ws : List Int} (h : gs.length ≤ 1048576) (h' : ls.length ≤ 1048576) (hw : ws.length ≤ 1048576) : ∃ (ok : Bool) (A B C : List Int), A.length ≤ 1000 ∧ B.length ≤ 1000 ∧ C.length ≤ 1000 ∧ HfAns 5 gs.length ls.length ws.length ok gs ls ws A B C ∧ HfAns 8 gs.length ls.length ws.length ok gs ls ws A B C := by
  obtain ⟨r, ok, R1, R2, e1, _, e2, _, _, f1, f2⟩ := sp_both17 h h'
  cases hb : Hs.hfB ok R1 ws
  · refine ⟨false, [], [], [], by simp, by simp, by simp, fun W X Y a c hsh t q => ?_, fun W X Y a c hsh t q => ?_⟩
    · exact (shf_no (hide f1) (hide hsh) (hide t) (hide e2) (hide rfl) hw (hide q) (hide hb)).mono fun e w' ⟨he, hb⟩ => ⟨_, _, _, he, hb, HV.nil3 _ _⟩
    · exact (hf_no (hide f2) (hide e1) (hide hsh) (hide t) (hide e2) (hide rfl) (hide q) (hide hb)).mono fun e w' ⟨he, hb⟩ => ⟨_, _, _, he, hb, HV.nil3 _ _⟩
  · obtain ⟨_, _, hl, hl10, _⟩ := Hs.hf_yes hb
    refine ⟨true, ws, Hs.hfC R1 ws, Hs.ownL R1 (Hs.hfC R1 ws) ws, by omega, by rw [Hs.hfC_len]; omega, by rw [Hs.ownL_len]; omega, fun W X Y a c hsh t q => ?_, fun W X Y a c hsh t q => ?_⟩
    · exact shf_yes (hide f1) (hide hsh) (hide t) (hide e2) (hide rfl) (hide q) (hide hb)
    · exact hf_yes17 (hide f2) (hide hsh) (hide t) (hide e2) (hide rfl) (hide q) (hide hb)
theorem lHf17_walk {a a' aw : Option Addr} {n c n' c' nw cw : Nat} {gs : List Gd} {ls : List (Int × Int)} {ws : List Int} {w : World} (HN : Hid (gs.length = n)) (HM : Hid (n ≤ maxLen)) (HF : Hid (Fits gs)) (HA : Hid (GRow w a gs)) (HN' : Hid (ls.length = n')) (HM' : Hid (n' ≤ maxLen)) (HA' : Hid (LRow w a' ls)) (HW : Hid (ws.length = nw)) (HWA : Hid (ARow w aw ws)) :
    Calls Tryz.prog 3 #[.agg #[.slice a n c, .slice a' n' c'], .slice aw nw cw] w fun e w' => e = .returned (.bool true) ∧ Below w.heap.size w w' := by
  have e1 := HN.out
  have e2 := HN'.out
  have e3 := HW.out
  subst e1 e2 e3
  by_cases h : gs.length ≤ 1048576 ∧ ls.length ≤ 1048576 ∧ ws.length ≤ 1048576
  · obtain ⟨ok, A, B, C, h1, h2, h3, f1, f2⟩ := hf_both h.1 h.2.1 h.2.2
    exact lHf17_main HN HM HF HA HN' HM' HA' HW HWA h1 h2 h3 (hide fun _ _ _ => f1) (hide fun _ _ _ => f2)
  · exact lHf17_main (A := []) (B := []) (C := []) (ok := false) HN HM HF HA HN' HM' HA' HW HWA (by simp) (by simp) (by simp) (hide fun h1 h2 h3 => absurd ⟨h1, h2, h3⟩ h) (hide fun h1 h2 h3 => absurd ⟨h1, h2, h3⟩ h)
end Go.Proofs.YtlbagigghpiifaaGreat
