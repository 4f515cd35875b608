/-
  At any sheet GoodSheet answers as the model does: the law's own walk.
-/
import Derived.Test.YtogkbidphdpjaaaSc15
import Derived.Test.YtogkbidphdpjaaaSa15
import Derived.Deep.DeepCutAuto
namespace Go.Proofs.Ytogkbidphdpjaaa
open Go.RowKit

set_option maxRecDepth 100000 in
set_option maxHeartbeats 8000000 in
theorem lGsh15_walk {a a' : Option Addr} {n c n' c' : Nat} {gs : List Gd} {ls : List (Int × Int)} {w : World} (HN : Hid (gs.length = n)) (HM : Hid (n ≤ maxLen)) (HF : Hid (Fits gs)) (HA : Hid (GRow w a gs)) (HN' : Hid (ls.length = n')) (HM' : Hid (n' ≤ maxLen)) (HA' : Hid (LRow w a' ls)) :
    Calls Try.prog 3 #[.agg #[.slice a n c, .slice a' n' c']] w fun e w' => e = .returned (.bool true) ∧ Below w.heap.size w w' := by
  have HS := hide fun (W : World) (X Y : Nat) (hn : n ≤ 1048576) (hn' : n' ≤ 1048576) (hs : Short gs) (t : TS W X Y n n' gs ls) => sgsh_any (w := W) HN.out hn (Nat.le_refl n) hs t.g HN'.out hn' (Nat.le_refl n') t.l
  have HI := hide fun (W : World) (X Y : Nat) (hs : Short gs) (t : TS W X Y n n' gs ls) => gsh_any (w := W) HN.out (Nat.le_refl n) hs t.g HN'.out (c' := n') t.l
  generalize sheetB gs ls = G at HS HI
  have hneG : (G != G) = false := by simp
  have HB0 := hide (below_new w (.cells #[.slice a n c, .slice a' n' c'] 25))
  have P0 := hide (PBox.new w (.slice a n c) (.slice a' n' c') 25)
  go_enter Try.func3, Try.ntmps3
  go_wp2_with fail
  refine (szSh_any HN HM HF (hide (HA.out.below HB0.out)) HM' (by omega) (by omega)).mono ?_
  rintro e w1 ⟨r, rfl, hr1, hr2, hb1⟩
  have P1 := hide (P0.out.below hb1)
  have HB1 := hide (HB0.out.trans (hb1.mono HB0.out.size))
  clear hb1
  obtain ⟨p0, p1, pl⟩ := P1.out
  rcases hr2 with rfl | ⟨hr0, hn, hn', hsh⟩
  · go_wp2_with fail
    go_ret
    exact ⟨rfl, HB1.out⟩
  have HSh := hide hsh
  have hr3 : ¬ r < 0 := by omega
  clear hsh
  go_wp2_with fail
  refine (toSh_any HN hn (hide (HA.out.below HB1.out)) HN' hn' (hide (HA'.out.below HB1.out))).mono ?_
  rintro e w2 ⟨X2, Y2, rfl, hb2, _, _, t2⟩
  have T2 := hide t2
  have P2 := hide (P1.out.below hb2)
  have HB2 := hide (HB1.out.trans (hb2.mono HB1.out.size))
  clear hb2 t2 p0 p1 pl
  obtain ⟨p0, p1, pl⟩ := P2.out
  go_wp2_with fail
  refine (HS.out _ _ _ hn hn' HSh.out T2.out).mono ?_
  rintro e w3 ⟨rfl, hb3⟩
  have P3 := hide (P2.out.below hb3)
  have HB3 := hide (HB2.out.trans (hb3.mono HB2.out.size))
  clear hb3 p0 p1 pl T2
  obtain ⟨p0, p1, pl⟩ := P3.out
  go_wp2_with fail
  refine (toSh_any HN hn (hide (HA.out.below HB3.out)) HN' hn' (hide (HA'.out.below HB3.out))).mono ?_
  rintro e w4 ⟨X4, Y4, rfl, hb4, _, _, t4⟩
  have hb5 := below_new w4 (.cells #[.slice (some ⟨X4, 0, none⟩) n n, .slice (some ⟨Y4, 0, none⟩) n' n'] 31)
  have Q5 := hide (PBox.new w4 (.slice (some ⟨X4, 0, none⟩) n n) (.slice (some ⟨Y4, 0, none⟩) n' n') 31)
  have P5 := hide ((P3.out.below hb4).below hb5)
  have HB4 := hide (HB3.out.trans (hb4.mono HB3.out.size))
  have HB5 := hide (HB4.out.trans (hb5.mono HB4.out.size))
  have T5 := hide (t4.below hb5)
  obtain ⟨w5, hw5⟩ : ∃ W, W = w4.alloc (.cells #[.slice (some ⟨X4, 0, none⟩) n n, .slice (some ⟨Y4, 0, none⟩) n' n'] 31) := ⟨_, rfl⟩
  rw [← hw5] at Q5 P5 HB5 T5
  have HW5 := hide hw5.symm
  obtain ⟨D, hD⟩ : ∃ b, b = w4.heap.size := ⟨_, rfl⟩
  rw [← hD] at Q5
  have HD := hide hD.symm
  clear hb4 hb5 t4 hw5 hD p0 p1 pl HB4
  go_upto_region 7 with fail
  rw [HW5.out, HD.out]
  clear HW5 HD
  obtain ⟨p0, p1, pl⟩ := P5.out
  obtain ⟨q0, q1, ql⟩ := Q5.out
  go_wp2_with fail
  refine (HI.out _ _ _ HSh.out T5.out).mono ?_
  rintro e w6 ⟨rfl, hb6⟩
  have P6 := hide (P5.out.below hb6)
  have Q6 := hide (Q5.out.below hb6)
  have T6 := hide (T5.out.below hb6)
  have HB6 := hide (HB5.out.trans (hb6.mono HB5.out.size))
  clear hb6 p0 p1 pl q0 q1 ql P5 Q5 T5
  go_upto_region 10 with fail
  have hbd : Below w6.heap.size w6 w6.drew := (Below.refl _ _).drew
  have hP := P6.out.below hbd
  have hQ := Q6.out.below hbd
  have T7 := hide (T6.out.below hbd)
  have HB7 := hide (HB6.out.trans (hbd.mono HB6.out.size))
  have hSd := (⟨hP.1, hP.2.1, hQ.1, hQ.2.1⟩ : _ ∧ _ ∧ _ ∧ _)
  clear hbd P6 Q6 T6
  go_region_held3 (fun w' => w'.cell? ⟨w.heap.size, 0, none⟩ = some (.slice a n c) ∧ w'.cell? ⟨w.heap.size, 1, none⟩ = some (.slice a' n' c') ∧ w'.cell? ⟨D, 0, none⟩ = some (.slice (some ⟨X4, 0, none⟩) n n) ∧ w'.cell? ⟨D, 1, none⟩ = some (.slice (some ⟨Y4, 0, none⟩) n' n'))
    (first | exact hSd | assumption | fail)
    (first
    | (go_at_call 9; refine (toSh_any HN hn (hide (HA.out.below HB7.out)) HN' hn' (hide (HA'.out.below HB7.out))).mono ?_; rintro e w8 ⟨X8, Y8, rfl, hb8, _, _, t8⟩; have T8 := hide t8; have T78 := hide (T7.out.below hb8); have hP8 := hP.below hb8; have hQ8 := hQ.below hb8; have HB8 := hide (HB7.out.trans (hb8.mono HB7.out.size)); have hS8 := (⟨hP8.1, hP8.2.1, hQ8.1, hQ8.2.1⟩ : _ ∧ _ ∧ _ ∧ _); clear hb8 t8)
    | (go_at_call 11; refine (eqSh15 HN hn HN' hn' T78.out.g T78.out.l T8.out.g T8.out.l).mono ?_; rintro e w9 ⟨rfl, hb9⟩; have hP9 := hP8.below hb9; have hQ9 := hQ8.below hb9; have HB9 := hide (HB8.out.trans (hb9.mono HB8.out.size)); have hS9 := (⟨hP9.1, hP9.2.1, hQ9.1, hQ9.2.1⟩ : _ ∧ _ ∧ _ ∧ _); clear hb9)
    | fail)
  go_wp2_with fail
  go_ret
  exact ⟨rfl, HB9.out⟩
end Go.Proofs.Ytogkbidphdpjaaa
