/-
  What the Draw functions of chapter 7 hand out.
-/
import Derived.Test.YtljccbnkibfimaaHu
namespace Go.Proofs.Ytljccbnkibfimaa
open Go.RowKit

theorem cur_below {w w1 : World} {o : Obj} (hk : Kp w.heap.size (w.alloc o) w1) : Below w.heap.size w w1 :=
  ((Below.refl w.heap.size w).alloc (Nat.le_refl _) o).trans (hk.below (Nat.le_refl _) (by simp))
/-- Two lists of one length, at most eleven. -/
def PCPost (w : World) (e : Ending) (w' : World) : Prop :=
  ∃ au cu aw cw us ws, ∃ n : Nat, e = .returned (.tuple #[.slice au n cu, .slice aw n cw]) ∧ List.length us = n ∧ List.length ws = n ∧ n ≤ 11 ∧ ARow w' au us ∧ ARow w' aw ws ∧ Below w.heap.size w w'
set_option maxRecDepth 100000 in
set_option maxHeartbeats 1000000 in
theorem drawPC_any {a : Option Addr} {len cap : Nat} {w : World} (hs : Hid (Src w a len)) :
    Calls Try.prog 34 #[.slice a len cap] w (PCPost w) := by
  have HC := hide (cur_new (cap := cap) hs.out)
  go_enter Try.func34, Try.ntmps34
  go_wp2_with fail
  refine (ways_any HC.out (by omega)).mono ?_
  rintro e w1 ⟨v, us, u, ws, rfl, hl, hwl, own1, own2, hc1, hk1⟩
  obtain ⟨au, cu, rfl, _, r1⟩ := own_cap rfl own1
  obtain ⟨aw, cw, rfl, _, r2⟩ := own_cap hwl own2
  have R1 := hide r1
  have R2 := hide r2
  have HB := hide (cur_below hk1)
  clear own1 own2 r1 r2 hc1 hk1 HC
  go_wp2_with fail
  go_ret2
  exact ⟨au, cu, aw, cw, us, ws, _, rfl, rfl, hwl, hl, R1.out, R2.out, HB.out⟩
/-- Two lists of one length, and a third as long. -/
def OCPost (w : World) (e : Ending) (w' : World) : Prop :=
  ∃ au cu aw cw ao co us ws os, ∃ n : Nat, e = .returned (.tuple #[.slice au n cu, .slice aw n cw, .slice ao n co]) ∧ List.length us = n ∧ List.length ws = n ∧ List.length os = n ∧ n ≤ 11 ∧ n ≤ co ∧ ARow w' au us ∧ ARow w' aw ws ∧ ARow w' ao os ∧ Below w.heap.size w w'
set_option maxRecDepth 100000 in
set_option maxHeartbeats 1000000 in
theorem drawOC_any {a : Option Addr} {len cap : Nat} {w : World} (hs : Hid (Src w a len)) :
    Calls Try.prog 26 #[.slice a len cap] w (OCPost w) := by
  have HC := hide (cur_new (cap := cap) hs.out)
  go_enter Try.func26, Try.ntmps26
  go_wp2_with fail
  refine (ways_any HC.out (by omega)).mono ?_
  rintro e w1 ⟨v, us, u, ws, rfl, hl, hwl, own1, own2, hc1, hk1⟩
  have HZ1 := hide hk1.size
  have HO1 := hide own1
  have HO2 := hide own2
  obtain ⟨au, cu, rfl, _, _⟩ := own_cap rfl own1
  obtain ⟨aw, cw, rfl, _, _⟩ := own_cap hwl own2
  have HC1 := hide hc1
  have HK1 := hide hk1
  clear own1 own2 hc1 hk1 HC
  go_wp2_with fail
  refine (order7_any HC1.out (by omega) (by omega)).mono ?_
  rintro e w2 ⟨v3, os, rfl, hol, own3, hc2, hk2⟩
  obtain ⟨au', cu', e1, _, r1⟩ := own_cap rfl (own_kp HO1.out hk2 (by simp))
  cases e1
  obtain ⟨aw', cw', e2, _, r2⟩ := own_cap hwl (own_kp HO2.out hk2 (by simp))
  cases e2
  obtain ⟨ao, co, rfl, hco, r3⟩ := own_cap hol own3
  have R1 := hide r1
  have R2 := hide r2
  have R3 := hide r3
  have HB := hide (cur_below (HK1.out.trans hk2))
  clear own3 hc2 hk2 r1 r2 r3 HO1 HO2 HK1 HC1
  go_wp2_with fail
  exact bodyPost_ret (v := .tuple #[.slice au us.length cu, .slice aw us.length cw, .slice ao us.length co]) (by simp [results, Try.results26, go_sem]) rfl ⟨au, cu, aw, cw, ao, co, us, ws, os, _, rfl, rfl, hwl, hol, hl, hco, R1.out, R2.out, R3.out, HB.out⟩
def SGPost (w : World) (e : Ending) (w' : World) : Prop :=
  ∃ au cu aw cw ao co us ws os, ∃ (x y : Int) (n : Nat), e = .returned (.tuple #[.slice au n cu, .slice aw n cw, .slice ao n co, .int .i64 x, .int .i64 y]) ∧ List.length us = n ∧ List.length ws = n ∧ List.length os = n ∧ n ≤ 11 ∧ n ≤ co ∧ ARow w' au us ∧ ARow w' aw ws ∧ ARow w' ao os ∧ Below w.heap.size w w'
set_option maxRecDepth 100000 in
set_option maxHeartbeats 2000000 in
theorem drawSG_any {a : Option Addr} {len cap : Nat} {w : World} (hs : Hid (Src w a len)) :
    Calls Try.prog 37 #[.slice a len cap] w (SGPost w) := by
  have HC := hide (cur_new (cap := cap) hs.out)
  go_enter Try.func37, Try.ntmps37
  go_wp2_with fail
  refine (ways_any HC.out (by omega)).mono ?_
  rintro e w1 ⟨v, us, u, ws, rfl, hl, hwl, own1, own2, hc1, hk1⟩
  have HZ1 := hide hk1.size
  have HO1 := hide own1
  have HO2 := hide own2
  obtain ⟨au, cu, rfl, _, _⟩ := own_cap rfl own1
  obtain ⟨aw, cw, rfl, _, _⟩ := own_cap hwl own2
  have HC1 := hide hc1
  have HK1 := hide hk1
  clear own1 own2 hc1 hk1 HC
  go_wp2_with fail
  refine (order7_any HC1.out (by omega) (by omega)).mono ?_
  rintro e w2 ⟨v3, os, rfl, hol, own3, hc2, hk2⟩
  have HO1' := hide (own_kp HO1.out hk2 (by simp))
  have HO2' := hide (own_kp HO2.out hk2 (by simp))
  have HO3 := hide own3
  have HC2 := hide hc2
  have HK2 := hide (HK1.out.trans hk2)
  have HZ2 : Hid (w.heap.size < w1.heap.size) := hide (by have := HZ1.out; simp at this; omega)
  clear own3 hc2 hk2 HO1 HO2 HK1 HC1
  go_wp2_with fail
  refine (pick_any 7 (by omega) HC2.out (by omega)).mono ?_
  rintro e w3 ⟨x, rfl, _, _, hc3, hk3⟩
  have HO1'' := hide (own_kp HO1'.out hk3 (by simp))
  have HO2'' := hide (own_kp HO2'.out hk3 (by simp))
  have HO3' := hide (own_kp HO3.out hk3 HZ2.out)
  have HC3 := hide hc3
  have HK3 := hide (HK2.out.trans hk3)
  clear hc3 hk3 HO1' HO2' HO3 HC2 HK2
  go_wp2_with fail
  refine (pick_any 7 (by omega) HC3.out (by omega)).mono ?_
  rintro e w4 ⟨y, rfl, _, _, hc4, hk4⟩
  obtain ⟨au', cu', e1, _, r1⟩ := own_cap rfl (own_kp HO1''.out hk4 (by simp))
  cases e1
  obtain ⟨aw', cw', e2, _, r2⟩ := own_cap hwl (own_kp HO2''.out hk4 (by simp))
  cases e2
  obtain ⟨ao, co, rfl, hco, r3⟩ := own_cap hol (own_kp HO3'.out hk4 HZ2.out)
  have R1 := hide r1
  have R2 := hide r2
  have R3 := hide r3
  have HB := hide (cur_below (HK3.out.trans hk4))
  clear hc4 hk4 r1 r2 r3 HO1'' HO2'' HO3' HC3 HK3
  go_wp2_with fail
  exact bodyPost_ret (v := .tuple #[.slice au us.length cu, .slice aw us.length cw, .slice ao us.length co, .int .i64 x, .int .i64 y]) (by simp [results, Try.results37, go_sem]) rfl ⟨au, cu, aw, cw, ao, co, us, ws, os, x, y, _, rfl, rfl, hwl, hol, hl, hco, R1.out, R2.out, R3.out, HB.out⟩
def IOPost (w : World) (e : Ending) (w' : World) : Prop :=
  ∃ ao co os, ∃ (k : Int) (n : Nat), e = .returned (.tuple #[.slice ao n co, .int .i64 k]) ∧ List.length os = n ∧ n ≤ 12 ∧ n ≤ co ∧ ARow w' ao os ∧ Below w.heap.size w w'
def CIPost (w : World) (e : Ending) (w' : World) : Prop :=
  ∃ ao co os, ∃ n : Nat, e = .returned (.slice ao n co) ∧ List.length os = n ∧ n ≤ 12 ∧ n ≤ co ∧ ARow w' ao os ∧ Below w.heap.size w w'
def SCPost (w : World) (e : Ending) (w' : World) : Prop :=
  ∃ al cl ao co L os, ∃ n : Nat, e = .returned (.tuple #[.slice al n cl, .slice ao n co]) ∧ List.length L = n ∧ List.length os = n ∧ n ≤ 7 ∧ n ≤ co ∧ FRow w' al L ∧ ARow w' ao os ∧ Below w.heap.size w w'
end Go.Proofs.Ytljccbnkibfimaa
