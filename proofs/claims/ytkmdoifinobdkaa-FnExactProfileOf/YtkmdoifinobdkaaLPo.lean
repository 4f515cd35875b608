/-
  At any goods and lines ProfileOf answers as the model does, in memory of its own: the law's own walk.
-/
import Derived.Test.YtkmdoifinobdkaaLGoods
import Derived.Test.YtkmdoifinobdkaaNm
import Derived.Test.YtkmdoifinobdkaaNq
namespace Go.Proofs.Ytkmdoifinobdkaa
open Go.RowKit

/-- A list of lines of the laws' own. -/
def LW (w : World) (b : Nat) (ls : List (Int × Int)) : Prop := b < w.heap.size ∧ LAt w b 0 ls
theorem LW.below {w w' : World} {b : Nat} {ls : List (Int × Int)} (h : LW w b ls) (hb : Below w.heap.size w w') : LW w' b ls := ⟨Nat.lt_of_lt_of_le h.1 hb.size, h.2.below hb h.1⟩
theorem LW.row {w : World} {b : Nat} {ls : List (Int × Int)} (h : LW w b ls) : LRow w (some ⟨b, 0, none⟩) ls := h.2.row h.1
theorem toL_n (a : Option Addr) (c n : Nat) (ls : List (Int × Int)) (w : World) (hn : ls.length = n) (hlen : n ≤ 1048576) (hr : LRow w a ls) :
    Calls Try.prog 12 #[.slice a n c] w fun e w' => e = .returned (.slice (some ⟨w.heap.size, 0, none⟩) n n) ∧ Below w.heap.size w w' ∧ w.heap.size < w'.heap.size ∧ LW w' w.heap.size ls ∧ Loose w' w.heap.size (n * 2) := by
  subst hn
  exact (toL_row a c ls w hlen hr).mono fun e w' ⟨he, hb, hz, hl, hL⟩ => ⟨he, hb, hz, ⟨hz, hl⟩, hL⟩
theorem eqL_n (b c n : Nat) (ls : List (Int × Int)) (w : World) (hn : ls.length = n) (hlen : n ≤ 1048576) (h1 : LW w b ls) (h2 : LW w c ls) :
    Calls Try.prog 15 #[.slice (some ⟨b, 0, none⟩) n n, .slice (some ⟨c, 0, none⟩) n n] w fun e w' => e = .returned (.bool true) ∧ Below w.heap.size w w' := by
  subst hn
  exact eqL_same b c _ _ ls w hlen h1.1 h2.1 h1.2 h2.2
/-- What both ProfileOfs answer. -/
def PoAns (f n n' r : Nat) (ok : Bool) (gs : List Gd) (ls : List (Int × Int)) (R1 R2 : List Int) : Prop :=
  ∀ (W : World) (b b' : Nat), Short gs → GRow W (some ⟨b, 0, none⟩) gs → LRow W (some ⟨b', 0, none⟩) ls →
    Calls Try.prog f #[.slice (some ⟨b, 0, none⟩) n n, .slice (some ⟨b', 0, none⟩) n' n'] W fun e w' => ∃ v1 v2, e = .returned (.tuple #[.agg #[v1, v2], .bool ok]) ∧ Below W.heap.size W w' ∧ w'.ownsRow W.heap.size 3 1 v1 r (ints R1) ∧ w'.ownsRow W.heap.size 3 1 v2 r (ints R2) ∧ ∀ g, v1.ownBlock = some g → v2.ownBlock ≠ some g

set_option maxRecDepth 20000 in
set_option maxHeartbeats 8000000 in
theorem lPo_short {a a' : Option Addr} {n c n' c' r : Nat} {ok : Bool} {gs : List Gd} {ls : List (Int × Int)} {R1 R2 : List Int} {w : World} (hn : gs.length = n) (hn' : ls.length = n') (h : n ≤ 1048576) (hm' : n' ≤ maxLen) (hr1 : R1.length = r) (hr2 : R2.length = r) (hr' : r ≤ 1000) (hf : Fits gs) (hg : GRow w a gs) (hl : LRow w a' ls)
    (Hs : Hid (PoAns 11 n n' r ok gs ls R1 R2)) (Hi : Hid (PoAns 13 n n' r ok gs ls R1 R2)) :
    Calls Try.prog 4 #[.slice a n c, .slice a' n' c'] w fun e w' => e = .returned (.bool true) ∧ Below w.heap.size w w' := by
  have HR := hide hg
  have HL := hide hl
  have HN := hide hn
  have HN' := hide hn'
  have HF := hide hf
  have HR1 := hide hr1
  have HR2 := hide hr2
  have HM := hide hm'
  have hne : (ok != ok) = false := by simp
  clear hg hl hn hn' hf hr1 hr2 hm'
  go_enter Try.func4, Try.ntmps4
  go_wp2_with fail
  refine (szG_any HN.out (by omega) (by omega) (by omega) HF.out HR.out).mono ?_
  rintro e w1 ⟨left, rfl, hl1, hl2, hb1⟩
  rcases hl2 with rfl | ⟨hl0, hsh⟩
  · go_wp2_with fail
    go_ret
    exact ⟨rfl, hb1⟩
  have HSh := hide (short_of HN.out hsh)
  have hl3 : ¬ left < 0 := by omega
  clear hsh HF
  by_cases hle : (n' : Int) ≤ left
  case neg =>
    go_wp2_with fail
    refine (szL_no a' n' c' left w1 hl0 hl1 HM.out (by omega)).mono ?_
    rintro e w2 ⟨rfl, rfl⟩
    go_wp2_with fail
    go_ret
    exact ⟨rfl, hb1⟩
  go_wp2_with fail
  refine (szL_yes a' n' c' left w1 hl0 hl1 hle).mono ?_
  rintro e w2 ⟨rfl, rfl⟩
  have hl4 : ¬ left - (n' : Int) < 0 := by omega
  have h' : n' ≤ 1048576 := by omega
  go_wp2_with fail
  refine (toG_rowF a c n gs _ HN.out h (HR.out.below hb1)).mono ?_
  rintro e w2 ⟨rfl, hb2, z2, row2, _⟩
  have R2' := hide row2
  have hB2 := hb1.trans (hb2.mono hb1.size)
  clear row2
  go_wp2_with fail
  refine (toL_n a' c' n' ls _ HN'.out h' (HL.out.below hB2)).mono ?_
  rintro e w3 ⟨rfl, hb3, z3, row3, _⟩
  have R3' := hide row3
  have R2'' := hide (R2'.out.below hb3)
  have hB3 := hB2.trans (hb3.mono hB2.size)
  clear row3 R2'
  go_wp2_with fail
  refine (Hs.out _ _ _ HSh.out R2''.out R3'.out.row).mono ?_
  rintro e w4 ⟨vv1, vv2, rfl, hb4, ow1, ow2, _⟩
  obtain ⟨v1, j1, rfl⟩ := own_sh ow1
  obtain ⟨v2, j2, rfl⟩ := own_sh ow2
  have hB4 := hB3.trans (hb4.mono hB3.size)
  have V0 := hide ow1
  have V1 := hide ow2
  clear ow1 ow2 R2'' R3'
  go_wp2_with fail
  have bn4 := below_new w4 (.cells #[.slice v1 r j1, .slice v2 r j2] 33)
  have P5 := hide (PBox.new w4 (.slice v1 r j1) (.slice v2 r j2) 33)
  have s45 : Hid ((w4.alloc (.cells #[.slice v1 r j1, .slice v2 r j2] 33)).heap.size = w4.heap.size + 1) := hide (by simp)
  have V05 := hide (own_below V0.out bn4)
  have V15 := hide (own_below V1.out bn4)
  have hB5 := hB4.trans (bn4.mono hB4.size)
  have HVE : Hid (∀ g, (Value.slice v1 r j1).ownBlock = some g ∨ (Value.slice v2 r j2).ownBlock = some g → g < w4.heap.size) := hide fun g hg => by
    rcases hg with hg | hg
    · exact own_hi V0.out hg
    · exact own_hi V1.out hg
  clear V0 V1 bn4
  generalize w4.alloc (.cells #[.slice v1 r j1, .slice v2 r j2] 33) = w5 at *
  refine (toG_rowF a c n gs _ HN.out h (HR.out.below hB5)).mono ?_
  rintro e w6 ⟨rfl, hb6, z6, row6, lo6⟩
  have R6 := hide row6
  have L6 := hide lo6
  have hB6 := hB5.trans (hb6.mono hB5.size)
  clear row6 lo6
  go_wp2_with fail
  refine (toL_n a' c' n' ls _ HN'.out h' (HL.out.below hB6)).mono ?_
  rintro e w7 ⟨rfl, hb7, z7, row7, lo7⟩
  have R7 := hide row7
  have L7 := hide lo7
  have R67 := hide (R6.out.below hb7)
  have L67 := hide (L6.out.below hb7)
  have hB7 := hB6.trans (hb7.mono hB6.size)
  have b57 := hb6.trans (hb7.mono hb6.size)
  clear row7 lo7 R6 L6
  go_wp2_with fail
  refine (Hi.out _ _ _ HSh.out R67.out R7.out.row).mono ?_
  rintro e w8 ⟨vg1, vg2, rfl, hb8, og1, og2, gne⟩
  obtain ⟨g1, k1, rfl⟩ := own_sh og1
  obtain ⟨g2, k2, rfl⟩ := own_sh og2
  have GNE := hide gne
  have HGE : Hid (∀ g, (Value.slice g1 r k1).ownBlock = some g ∨ (Value.slice g2 r k2).ownBlock = some g → w7.heap.size ≤ g ∧ g < w8.heap.size) := hide fun g hg => by
    rcases hg with hg | hg
    · exact og1.lt g hg
    · exact og2.lt g hg
  have bn8 := below_new w8 (.cells #[.slice g1 r k1, .slice g2 r k2] 33)
  have s89 : Hid ((w8.alloc (.cells #[.slice g1 r k1, .slice g2 r k2] 33)).heap.size = w8.heap.size + 1) := hide (by simp)
  have b79 := hb8.trans (bn8.mono hb8.size)
  have b59 := b57.trans (b79.mono b57.size)
  have P9 := P5.out.below b59
  have Q9 := PBox.new w8 (.slice g1 r k1) (.slice g2 r k2) 33
  have G09 := hide (own_below og1 bn8)
  have G19 := hide (own_below og2 bn8)
  have V09 := hide (own_below V05.out b59)
  have V19 := hide (own_below V15.out b59)
  have R69 := hide (R67.out.below b79)
  have L69 := hide (L67.out.below b79)
  have R79 := hide (R7.out.below b79)
  have L79 := hide (L7.out.below b79)
  have hB9 := hB5.trans (b59.mono hB5.size)
  have z8 := hb8.size
  have HPQ9 := hide (And.intro P9 Q9)
  clear og1 og2 gne P5 V05 V15 R67 L67 R7 L7 bn8 b57 Q9
  obtain ⟨c0, c1, _⟩ := P9
  go_wp2_with fail
  clear c0 c1
  generalize w8.alloc (.cells #[.slice g1 r k1, .slice g2 r k2] 33) = w9 at *
  refine (eqPV_any HR1.out HR2.out (by omega) G09.out G19.out V09.out V19.out).mono ?_
  rintro e w10 ⟨rfl, hb10⟩
  have hB10 := hB9.trans (hb10.mono hB9.size)
  go_wp2_with fail
  refine (toG_rowF a c n gs _ HN.out h (HR.out.below hB10)).mono ?_
  rintro e w11 ⟨rfl, hb11, z11, row11, _⟩
  have R11 := hide row11
  have hB11 := hB10.trans (hb11.mono hB10.size)
  have b911 := hb10.trans (hb11.mono hb10.size)
  have X11 := hide (R69.out.below b911)
  clear row11
  go_wp2_with fail
  refine (eqG_same _ _ _ _ n gs _ HN.out h X11.out R11.out).mono ?_
  rintro e w12 ⟨rfl, hb12⟩
  have hB12 := hB11.trans (hb12.mono hB11.size)
  have b912 := b911.trans (hb12.mono b911.size)
  clear R11 X11
  go_wp2_with fail
  refine (toL_n a' c' n' ls _ HN'.out h' (HL.out.below hB12)).mono ?_
  rintro e w13 ⟨rfl, hb13, z13, row13, _⟩
  have R13 := hide row13
  have hB13 := hB12.trans (hb13.mono hB12.size)
  have b913 := b912.trans (hb13.mono b912.size)
  have X13 := hide (R79.out.below b913)
  clear row13
  go_wp2_with fail
  refine (eqL_n _ _ n' ls _ HN'.out h' X13.out R13.out).mono ?_
  rintro e w14 ⟨rfl, hb14⟩
  have hB14 := hB13.trans (hb14.mono hB13.size)
  have b914 := b913.trans (hb14.mono b913.size)
  have L6e := hide (L69.out.below b914)
  have L7e := hide (L79.out.below b914)
  have G0e := hide (own_below G09.out b914)
  have G1e := hide (own_below G19.out b914)
  have V0e := hide (own_below V09.out b914)
  have V1e := hide (own_below V19.out b914)
  have HPQe := hide (And.intro (HPQ9.out.1.below b914) (HPQ9.out.2.below b914))
  have y0 := hB5.size
  have y1 := b914.size
  have y2 := hB4.size
  have HB14 := hide hB14
  clear R13 X13 hB10 hB11 hB12 hB13 b911 b912 b913 hb10 hb11 hb12 hb13 hb14 z11 z13 hB14 G09 G19 V09 V19 HPQ9 L69 L79 R69 R79
  go_wp2_with fail
  refine (markG_any _ n 1 _ h (by omega) (by omega) L6e.out).mono ?_
  rintro e w15 ⟨rfl, of1⟩
  have m1 := of1.size
  have L7f : Hid (Loose w15 w6.heap.size (n' * 2)) := hide fun j hj => by
    have hb := L7e.out.lt (by omega)
    have hk := of1.block w6.heap.size hb (by simp; omega)
    obtain ⟨l1, l2⟩ := L7e.out j hj
    exact ⟨by rw [World.cell?_of_block (w := w14) (a := ⟨w6.heap.size, j, none⟩) hk]; exact l1, by rw [World.frozen?_of_block (w := w14) (a := ⟨w6.heap.size, j, none⟩) hk]; exact l2⟩
  have HO1 := hide of1
  clear of1
  go_wp2_with fail
  refine (markL_any _ n' _ _ h' (by omega) (by omega) L7f.out).mono ?_
  rintro e w16 ⟨rfl, of2⟩
  have m2 := of2.size
  have of1 := HO1.out
  have FR : ∀ b, b < w14.heap.size → b ≠ w5.heap.size → b ≠ w6.heap.size → w16.heap[b]? = w14.heap[b]? := fun b hb n1 n2 => (of2.block b (by omega) (by simp; omega)).trans (of1.block b hb (by simp; omega))
  have e45 := s45.out
  have e89 := s89.out
  have sz : w14.heap.size ≤ w16.heap.size := by omega
  have P16 := HPQe.out.1.keep sz (FR _ (by omega) (by omega) (by omega))
  have Q16 := HPQe.out.2.keep sz (FR _ (by omega) (by omega) (by omega))
  have G0f := hide (own_keep G0e.out fun g hg hl => FR g hl (by have := HGE.out g (Or.inl hg); omega) (by have := HGE.out g (Or.inl hg); omega))
  have G1f := hide (own_keep G1e.out fun g hg hl => FR g hl (by have := HGE.out g (Or.inr hg); omega) (by have := HGE.out g (Or.inr hg); omega))
  have V0f := hide (own_keep V0e.out fun g hg hl => FR g hl (by have := HVE.out g (Or.inl hg); omega) (by have := HVE.out g (Or.inl hg); omega))
  have V1f := hide (own_keep V1e.out fun g hg hl => FR g hl (by have := HVE.out g (Or.inr hg); omega) (by have := HVE.out g (Or.inr hg); omega))
  have HB16 : Hid (Below w.heap.size w w16) := hide (HB14.out.trans ⟨of2.os.trans of1.os, of2.tape.trans of1.tape, of2.output.trans of1.output, sz, fun b hb => FR b (by omega) (by omega) (by omega)⟩)
  have hk : ¬ (1 : Int) + (n : Int) * 2 + (n' : Int) * 2 < 0 := by omega
  have HPQ16 := hide (And.intro P16 Q16)
  obtain ⟨c0, c1, _⟩ := P16
  obtain ⟨c2, c3, _⟩ := Q16
  clear FR of1 of2 HO1 L6e L7e L7f G0e G1e V0e V1e HPQe e45 e89 HB14
  go_wp2_with fail
  refine (eqPV_any HR1.out HR2.out (by omega) G0f.out G1f.out V0f.out V1f.out).mono ?_
  rintro e w17 ⟨rfl, hb17⟩
  have m3 := hb17.size
  have HPQ17 := hide (And.intro (HPQ16.out.1.below hb17) (HPQ16.out.2.below hb17))
  have HB17 := hide (HB16.out.trans (hb17.mono HB16.out.size))
  have G0 := hide (own_below G0f.out hb17)
  have G1 := hide (own_below G1f.out hb17)
  have V0 := hide (own_below V0f.out hb17)
  have V1 := hide (own_below V1f.out hb17)
  obtain ⟨_, c4, c5, _⟩ := HPQ17.out
  clear c0 c1 c2 c3 G0f G1f V0f V1f HPQ16 HB16
  go_wp2_with fail
  refine (markPV_any HR1.out HR2.out (by omega) (by omega) (by omega) G0.out G1.out GNE.out).mono ?_
  rintro e w18 ⟨rfl, hv1, hv2, ofv⟩
  have m4 := ofv.size
  have FV : ∀ b, b < w17.heap.size → (b < w7.heap.size ∨ b = w8.heap.size) → w18.heap[b]? = w17.heap[b]? := fun b hb ho => ofv.block b hb (fun he => by have := HGE.out b (Or.inl he.symm); omega) (fun he => by have := HGE.out b (Or.inr he.symm); omega)
  have e45 := s45.out
  have e89 := s89.out
  have P18 := HPQ17.out.1.keep m4 (FV _ (by omega) (Or.inl (by omega)))
  have Q18 := HPQ17.out.2.keep m4 (FV _ (by omega) (Or.inr rfl))
  have V08 := hide (own_keep V0.out fun g hg hl => FV g hl (Or.inl (by have := HVE.out g (Or.inl hg); omega)))
  have V18 := hide (own_keep V1.out fun g hg hl => FV g hl (Or.inl (by have := HVE.out g (Or.inr hg); omega)))
  have HB18 : Hid (Below w.heap.size w w18) := hide (HB17.out.trans ⟨ofv.os, ofv.tape, ofv.output, ofv.size, fun b hb => FV b (by omega) (Or.inl (by omega))⟩)
  have HH := hide (And.intro hv1 hv2)
  have HPQ18 := hide (And.intro P18 Q18)
  have hq0 : ¬ (1 : Int) + (r : Int) + (r : Int) < 0 := by omega
  have hq1 : ((1 : Int) + (r : Int) + (r : Int) != 1 + (r : Int) + (r : Int)) = false := by simp
  obtain ⟨d2, d3, _⟩ := Q18
  clear c4 c5 P18 FV ofv hv1 hv2 e45 e89 G0 G1 V0 V1 HPQ17 HB17 HGE HVE GNE
  go_wp2_with fail
  refine (heldPV_any (by omega) (by omega) (by omega) HH.out.1 HH.out.2).mono ?_
  rintro e w19 ⟨rfl, hb19⟩
  have hB19 := HB18.out.trans (hb19.mono HB18.out.size)
  have HH19 := hide (And.intro (HH.out.1.below hb19) (HH.out.2.below hb19))
  have V09 := hide (own_below V08.out hb19)
  have V19 := hide (own_below V18.out hb19)
  have HPQ19 := hide (And.intro (HPQ18.out.1.below hb19) (HPQ18.out.2.below hb19))
  clear d2 d3 HH V08 V18 HPQ18 HB18 hb19
  go_wp2_with fail
  refine (toG_rowF a c n gs _ HN.out h (HR.out.below hB19)).mono ?_
  rintro e w20 ⟨rfl, hb20, z20, row20, _⟩
  have R20 := hide row20
  have hB20 := hB19.trans (hb20.mono hB19.size)
  clear row20
  go_wp2_with fail
  refine (toL_n a' c' n' ls _ HN'.out h' (HL.out.below hB20)).mono ?_
  rintro e w21 ⟨rfl, hb21, z21, row21, _⟩
  have R21 := hide row21
  have R20' := hide (R20.out.below hb21)
  have hB21 := hB20.trans (hb21.mono hB20.size)
  have b921 := hb20.trans (hb21.mono hb20.size)
  clear row21 R20
  go_wp2_with fail
  refine (Hi.out _ _ _ HSh.out R20'.out R21.out.row).mono ?_
  rintro e w22 ⟨vh1, vh2, rfl, hb22, oh1, oh2, _⟩
  obtain ⟨u1, i1, rfl⟩ := own_sh oh1
  obtain ⟨u2, i2, rfl⟩ := own_sh oh2
  have b922 := b921.trans (hb22.mono b921.size)
  have bn22 := below_new w22 (.cells #[.slice u1 r i1, .slice u2 r i2] 33)
  have b923 := b922.trans (bn22.mono b922.size)
  have P23 := HPQ19.out.1.below b923
  have HQ23 := hide (HPQ19.out.2.below b923)
  have V03 := hide (own_below V09.out b923)
  have V13 := hide (own_below V19.out b923)
  have U03 := hide (own_below oh1 bn22)
  have U13 := hide (own_below oh2 bn22)
  have HH23 := hide (And.intro (HH19.out.1.below b923) (HH19.out.2.below b923))
  have HB23 := hide (hB19.trans (b923.mono hB19.size))
  obtain ⟨c0, c1, _⟩ := P23
  clear oh1 oh2 bn22 b922 b921 b923 hB21 hB20 hB19 V09 V19 HPQ19 HH19 R20' R21 hb20 hb21
  go_wp2_with fail
  refine (eqPV_any HR1.out HR2.out (by omega) U03.out U13.out V03.out V13.out).mono ?_
  rintro e w24 ⟨rfl, hb24⟩
  obtain ⟨c4, c5, _⟩ := HQ23.out.below hb24
  have HH24 := hide (And.intro (HH23.out.1.below hb24) (HH23.out.2.below hb24))
  have HB24 := hide (HB23.out.trans (hb24.mono HB23.out.size))
  clear c0 c1
  go_wp2_with fail
  refine (heldPV_any (by omega) (by omega) (by omega) HH24.out.1 HH24.out.2).mono ?_
  rintro e w25 ⟨rfl, hb25⟩
  have HB25 := HB24.out.trans (hb25.mono HB24.out.size)
  go_wp2_with fail
  go_ret
  exact ⟨rfl, HB25⟩
end Go.Proofs.Ytkmdoifinobdkaa
