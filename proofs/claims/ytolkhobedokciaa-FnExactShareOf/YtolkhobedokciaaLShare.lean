/-
  At any profile and number ShareOf answers as the model does: the law's own walk.
-/
import Derived.Test.YtolkhobedokciaaLGoodP
import Derived.Test.YtolkhobedokciaaF
import Derived.Test.YtolkhobedokciaaPk
namespace Go.Proofs.Ytolkhobedokciaa
open Go.RowKit

set_option maxHeartbeats 1000000 in
theorem lShare_long {a b : Option Addr} {n m c d : Nat} {g : Int} {w : World} (hn : n ≤ maxLen) (hm : m ≤ maxLen) (h : 1048576 < n + m) :
    Calls Try.prog 5 #[.agg #[.slice a n c, .slice b m d], .int .i64 g] w fun e w' => e = .returned (.bool true) ∧ Below w.heap.size w w' := by
  go_enter Try.func5, Try.ntmps5
  go_wp2_with fail
  refine (szP_no (by omega) (by omega) hn hm (by omega)).mono ?_
  rintro e w1 ⟨rfl, hb1⟩
  go_wp2_with fail
  go_ret
  exact ⟨rfl, ((Below.refl _ _).alloc (Nat.le_refl _) _).trans (hb1.mono (by simp))⟩

set_option maxHeartbeats 4000000 in
theorem lShare_short {a b : Option Addr} {n m c d : Nat} {g N D : Int} {ok : Bool} {ps fs : List Int} {w : World} (hn : ps.length = n) (hm : fs.length = m) (h : n + m ≤ 1048576) (ha : ARow w a ps) (hb : ARow w b fs)
    (Hs : Hid (∀ W x y, ARow W (some ⟨x, 0, none⟩) ps → ARow W (some ⟨y, 0, none⟩) fs → Calls Try.prog 18 #[.agg #[.slice (some ⟨x, 0, none⟩) n n, .slice (some ⟨y, 0, none⟩) m m], .int .i64 g] W fun e w' => e = .returned (.tuple #[.agg #[.int .i64 N, .int .i64 D], .bool ok]) ∧ Below W.heap.size W w'))
    (Hi : Hid (∀ W x y, ARow W (some ⟨x, 0, none⟩) ps → ARow W (some ⟨y, 0, none⟩) fs → Calls Try.prog 19 #[.agg #[.slice (some ⟨x, 0, none⟩) n n, .slice (some ⟨y, 0, none⟩) m m], .int .i64 g] W fun e w' => e = .returned (.tuple #[.agg #[.int .i64 N, .int .i64 D], .bool ok]) ∧ Below W.heap.size W w')) :
    Calls Try.prog 5 #[.agg #[.slice a n c, .slice b m d], .int .i64 g] w fun e w' => e = .returned (.bool true) ∧ Below w.heap.size w w' := by
  have HA := hide ha
  have HB := hide hb
  have HN := hide hn
  have HM := hide hm
  have hne : (ok != ok) = false := by simp
  have hl : ¬ (1048576 : Int) - (n : Int) - (m : Int) < 0 := by omega
  clear ha hb hn hm
  go_enter Try.func5, Try.ntmps5
  go_wp2_with fail
  refine (szP_yes (by omega) (by omega) (by omega)).mono ?_
  rintro e w1 ⟨rfl, hb1⟩
  have hB1 : Below w.heap.size w w1 := (below_new _ _).trans (hb1.mono (by simp))
  obtain ⟨p0, p1, z1⟩ := (PBox.new w _ _ _).below hb1
  go_wp2_with fail
  refine (toP_any HN.out HM.out (by omega) (by omega) (HA.out.below hB1) (HB.out.below hB1)).mono ?_
  rintro e w2 ⟨x1, y1, rfl, hb2, _, _, _, own1, own2⟩
  have hB2 : Below w.heap.size w w2 := hB1.trans (hb2.mono hB1.size)
  obtain ⟨p0', p1', z2⟩ := PBox.below ⟨p0, p1, z1⟩ hb2
  have R1 := hide (arow_owns HN.out.symm own1)
  have R2 := hide (arow_owns HM.out.symm own2)
  clear p0 p1 own1 own2
  go_wp2_with fail
  refine (Hs.out _ _ _ R1.out R2.out).mono ?_
  rintro e w3 ⟨rfl, hb3⟩
  have bn3 := below_new w3 (.cells #[.int .i64 N, .int .i64 D] 39)
  have hB3' : Below w.heap.size w w3 := hB2.trans (hb3.mono hB2.size)
  have hB3 := hB3'.trans (bn3.mono hB3'.size)
  obtain ⟨p0, p1, z3⟩ := (PBox.below ⟨p0', p1', z2⟩ hb3).below bn3
  have W0 := hide (PBox.new w3 (.int .i64 N) (.int .i64 D) 39)
  clear p0' p1' R1 R2
  go_wp2_with fail
  refine (toP_any HN.out HM.out (by omega) (by omega) (HA.out.below hB3) (HB.out.below hB3)).mono ?_
  rintro e w4 ⟨x2, y2, rfl, hb4, _, _, _, own1, own2⟩
  have hB4 : Below w.heap.size w w4 := hB3.trans (hb4.mono hB3.size)
  have bn := below_new w4 (.cells #[.slice (some ⟨x2, 0, none⟩) n n, .slice (some ⟨y2, 0, none⟩) m m] 33)
  obtain ⟨p0', p1', z4⟩ := (PBox.below ⟨p0, p1, z3⟩ hb4)
  have R1 := hide ((arow_owns HN.out.symm own1).below bn)
  have R2 := hide ((arow_owns HM.out.symm own2).below bn)
  have HPB := hide (PBox.below ⟨p0', p1', z4⟩ bn)
  have W1 := hide ((W0.out.below hb4).below bn)
  have hB5 := hB4.trans (bn.mono hB4.size)
  clear p0 p1 own1 own2 p0' p1' W0
  go_wp2_with fail
  refine (Hi.out _ _ _ R1.out R2.out).mono ?_
  rintro e w5 ⟨rfl, hb5⟩
  have bn5 := below_new w5 (.cells #[.int .i64 N, .int .i64 D] 39)
  have W5 := hide ((W1.out.below hb5).below bn5)
  obtain ⟨q0, q1, zq⟩ := W5.out
  have HPB5 := hide ((HPB.out.below hb5).below bn5)
  have HX5 := hide (((PBox.new w4 _ _ _).below hb5).below bn5)
  have hB6 := (hB5.trans (hb5.mono hB5.size)).trans (bn5.mono (hB5.trans (hb5.mono hB5.size)).size)
  have R1' := hide ((R1.out.below hb5).below bn5)
  have R2' := hide ((R2.out.below hb5).below bn5)
  have hlt : w.heap.size < w4.heap.size := z4
  clear HPB R1 R2 hB5 hB4 hB3 hB3' hB2 hB1 bn bn3 W1 W5 bn5 hb5
  go_wp2_with fail
  refine (eqFrac_same N D _).mono ?_
  rintro e w6 ⟨rfl, hb6⟩
  obtain ⟨p0, p1, z5⟩ := HPB5.out.below hb6
  obtain ⟨p2, p3, z6⟩ := HX5.out.below hb6
  have hR : Rest w w4.heap.size x2 y2 ps fs w6 := ⟨hB6.trans (hb6.mono hB6.size), z6, R1'.out.below hb6, R2'.out.below hb6⟩
  clear HPB5 HX5 R1' R2' hb6 hB6
  go_wp2_with fail
  go_region_held3 (fun w' => w'.cell? ⟨w.heap.size, 0, none⟩ = some (.slice a n c) ∧ w'.cell? ⟨w.heap.size, 1, none⟩ = some (.slice b m d) ∧ w'.cell? ⟨w4.heap.size, 0, none⟩ = some (.slice (some ⟨x2, 0, none⟩) n n) ∧ w'.cell? ⟨w4.heap.size, 1, none⟩ = some (.slice (some ⟨y2, 0, none⟩) m m) ∧ Rest w w4.heap.size x2 y2 ps fs w')
    (first | exact ⟨p0, p1, p2, p3, hR.below (below_drewN (Below.refl _ _) 1)⟩ | assumption | exact rest_step hlt ‹_› (by assumption))
    (first
    | (go_at_call 14; refine (toP_held HA HB HN HM h (by assumption)).mono ?_; rintro e w1 ⟨x3, y3, rfl, hb1, R3, R4⟩)
    | (go_at_call 16; refine (eqP_held HN HM h (by assumption) (by assumption) (by assumption)).mono ?_; rintro e w1 ⟨rfl, hb1⟩))
  obtain ⟨_, _, _, _, hR'⟩ := ‹_ ∧ _ ∧ _ ∧ _ ∧ _›
  have hBe := hR'.1
  clear hR hR'
  go_wp2_with fail
  go_ret
  exact ⟨rfl, hBe⟩

theorem lShare_walk {a b : Option Addr} {c d : Nat} {g : Int} {ps fs : List Int} {w : World} (ln : ps.length ≤ maxLen) (lm : fs.length ≤ maxLen) (ha : ARow w a ps) (hb : ARow w b fs) :
    Calls Try.prog 5 #[.agg #[.slice a ps.length c, .slice b fs.length d], .int .i64 g] w fun e w' => e = .returned (.bool true) ∧ Below w.heap.size w w' := by
  by_cases h : ps.length + fs.length ≤ 1048576
  · cases hi : shB ps fs g
    · exact lShare_short rfl rfl h ha hb (hide fun W x y h1 h2 => (sso_any rfl rfl h1 h2).1 hi) (hide fun W x y h1 h2 => (so_any rfl rfl h1 h2).1 hi)
    · exact lShare_short rfl rfl h ha hb (hide fun W x y h1 h2 => (sso_any rfl rfl h1 h2).2 hi) (hide fun W x y h1 h2 => (so_any rfl rfl h1 h2).2 hi)
  · exact lShare_long ln lm (by omega)
end Go.Proofs.Ytolkhobedokciaa
