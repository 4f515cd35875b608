/-
  The three partings in one word each, and draws of chapter 5: DrawRootParts, DrawFluidCost.
-/
import Derived.Test.YtmhednkbpniphaaDk
import Derived.Test.YtmhednkbpniphaaUd
import Derived.Test.YtmhednkbpniphaaSi
namespace Go.Proofs.Ytmhednkbpniphaa
open Go.RowKit

def eqX (fs : List Int) (r : Int) : List Int := if Fd.roomB fs r then eqL fs r else []
def tiX (fs : List Int) (r : Int) : List Int := if Fd.roomB fs r then tiL fs r else []
def roX (fs : List Int) (r : Int) : List Int := if Fd.roomB fs r then roL fs r else []
/-- What a parting hands out. -/
def Out (w : World) (xs : List Int) (ok : Bool) (e : Ending) (w' : World) : Prop := ∃ a c, e = .returned (.tuple #[.slice a xs.length c, .bool ok]) ∧ Below w.heap.size w w' ∧ w'.ownsRow w.heap.size 3 1 (.slice a xs.length c) xs.length (ints xs)
theorem out_no {w w' : World} {e : Ending} (h : e = .returned (.tuple #[.slice none 0 0, .bool false]) ∧ Below w.heap.size w w') : Out w [] false e w' := ⟨none, 0, h.1, h.2, World.ownsRow_nil _ _ _ _⟩
theorem out_yes {w w' : World} {e : Ending} {v : Value} {n : Nat} {xs : List Int} (hx : xs.length = n) (h : e = .returned (.tuple #[v, .bool true]) ∧ Below w.heap.size w w' ∧ w'.ownsRow w.heap.size 3 1 v n (ints xs)) : Out w xs true e w' := by
  obtain ⟨h1, h2, h3⟩ := h
  obtain ⟨a, c, rfl, _⟩ := own_slice hx h3
  subst hx
  exact ⟨a, c, h1, h2, h3⟩
theorem eqp_w {a : Option Addr} {n c : Nat} {p : Int} {fs : List Int} {w : World} (h : Hid (ARow w a fs)) (hn : Hid (fs.length = n)) :
    Calls Try.prog 15 #[.slice a n c, .int .i64 p] w (Out w (eqX fs p) (Fd.roomB fs p)) := by
  unfold eqX
  cases hk : Fd.roomB fs p
  · exact (eqp_no h hn (hide hk)).mono fun e w' q => out_no q
  · exact (eqp_yes h hn (hide hk)).mono fun e w' ⟨g, q⟩ => out_yes ((eqL_len fs p).trans hn.out) q
theorem seqp_w {a : Option Addr} {n c : Nat} {p : Int} {fs : List Int} {w : World} (h : Hid (ARow w a fs)) (hn : Hid (fs.length = n)) :
    Calls Try.prog 16 #[.slice a n c, .int .i64 p] w (Out w (eqX fs p) (Fd.roomB fs p)) := by
  unfold eqX
  cases hk : Fd.roomB fs p
  · exact (seqp_no h hn (hide hk)).mono fun e w' q => out_no q
  · exact (seqp_yes h hn (hide hk)).mono fun e w' ⟨g, q⟩ => out_yes ((eqL_len fs p).trans hn.out) q
theorem tip_w {a : Option Addr} {n c : Nat} {p : Int} {fs : List Int} {w : World} (h : Hid (ARow w a fs)) (hn : Hid (fs.length = n)) :
    Calls Try.prog 17 #[.slice a n c, .int .i64 p] w (Out w (tiX fs p) (Fd.roomB fs p)) := by
  unfold tiX
  cases hk : Fd.roomB fs p
  · exact (tip_no h hn (hide hk)).mono fun e w' q => out_no q
  · exact (tip_yes h hn (hide hk)).mono fun e w' ⟨g, q⟩ => out_yes ((tiL_len fs p).trans hn.out) q
theorem stip_w {a : Option Addr} {n c : Nat} {p : Int} {fs : List Int} {w : World} (h : Hid (ARow w a fs)) (hn : Hid (fs.length = n)) :
    Calls Try.prog 18 #[.slice a n c, .int .i64 p] w (Out w (tiX fs p) (Fd.roomB fs p)) := by
  unfold tiX
  cases hk : Fd.roomB fs p
  · exact (stip_no h hn (hide hk)).mono fun e w' q => out_no q
  · exact (stip_yes h hn (hide hk)).mono fun e w' ⟨g, q⟩ => out_yes ((tiL_len fs p).trans hn.out) q
theorem rop_w {a : Option Addr} {n c : Nat} {p : Int} {fs : List Int} {w : World} (h : Hid (ARow w a fs)) (hn : Hid (fs.length = n)) :
    Calls Try.prog 13 #[.slice a n c, .int .i64 p] w (Out w (roX fs p) (Fd.roomB fs p)) := by
  unfold roX
  cases hk : Fd.roomB fs p
  · exact (rop_no h hn (hide hk)).mono fun e w' q => out_no q
  · exact (rop_yes h hn (hide hk)).mono fun e w' ⟨g, q⟩ => out_yes ((roL_len fs p).trans hn.out) q
theorem srop_w {a : Option Addr} {n c : Nat} {p : Int} {fs : List Int} {w : World} (h : Hid (ARow w a fs)) (hn : Hid (fs.length = n)) :
    Calls Try.prog 14 #[.slice a n c, .int .i64 p] w (Out w (roX fs p) (Fd.roomB fs p)) := by
  unfold roX
  cases hk : Fd.roomB fs p
  · exact (srop_no h hn (hide hk)).mono fun e w' q => out_no q
  · exact (srop_yes h hn (hide hk)).mono fun e w' ⟨v, q⟩ => out_yes ((roL_len fs p).trans hn.out) q
theorem roX_len {fs : List Int} {r : Int} : (roX fs r).length ≤ fs.length := by unfold roX; split <;> simp [roL_len]
theorem eqX_len {fs : List Int} {r : Int} : (eqX fs r).length ≤ fs.length := by unfold eqX; split <;> simp [eqL_len]
set_option maxRecDepth 100000 in
set_option maxHeartbeats 1000000 in
theorem drawEP_any {a : Option Addr} {len cap : Nat} {w : World} (hs : Hid (Src w a len)) :
    Calls Try.prog 46 #[.slice a len cap] w fun e w' => ∃ a1 c1 xs r, e = .returned (.tuple #[.slice a1 xs.length c1, .int .i64 r]) ∧ xs.length ≤ 9 ∧ ARow w' a1 xs ∧ Below w.heap.size w w' := by
  have HC := hide (cur_new (cap := cap) hs.out)
  go_enter Try.func46, Try.ntmps46
  go_wp2_with fail
  refine (flow_any HC.out (by omega)).mono ?_
  rintro e w1 ⟨v1, xs, rfl, hx, own1, hc1, hk1⟩
  rw [asize] at own1
  obtain ⟨a1, c1, rfl, _⟩ := own_slice rfl own1
  have HO1 := hide own1
  have HC1 := hide hc1
  have HK1 := hide hk1
  clear own1 hc1 hk1
  go_wp2_with fail
  refine (croom_any HC1.out (by omega)).mono ?_
  rintro e w2 ⟨p, rfl, hc2, hk2⟩
  obtain ⟨a1', c1', e1, r1⟩ := own_slice rfl (own_kp HO1.out hk2 (Nat.lt_succ_self _))
  cases e1
  have HR := hide (And.intro r1 (kp_new (HK1.out.trans hk2)))
  clear hc2 hk2 r1 HO1 HC1 HK1
  go_wp2_with fail
  refine bodyPost_ret (v := .tuple #[.slice a1 xs.length c1, .int .i64 p]) (by simp [results, Try.results46, go_sem]) rfl ?_
  exact ⟨a1, c1, xs, p, rfl, hx, HR.out⟩
set_option maxRecDepth 100000 in
set_option maxHeartbeats 1000000 in
theorem drawRP_any {a : Option Addr} {len cap : Nat} {w : World} (hs : Hid (Src w a len)) :
    Calls Try.prog 12 #[.slice a len cap] w fun e w' => ∃ a1 c1 xs r, e = .returned (.tuple #[.slice a1 xs.length c1, .int .i64 r]) ∧ xs.length ≤ 9 ∧ ARow w' a1 xs ∧ Below w.heap.size w w' := by
  go_enter Try.func12, Try.ntmps12
  go_wp2_with fail
  refine (drawEP_any hs).mono ?_
  rintro e w1 ⟨a1, c1, xs, r, rfl, hx, r1, hb1⟩
  go_wp2_with fail
  refine bodyPost_ret (v := .tuple #[.slice a1 xs.length c1, .int .i64 r]) (by simp [results, Try.results12, go_sem]) rfl ?_
  exact ⟨a1, c1, xs, r, rfl, hx, r1, hb1⟩
theorem four_cells (w : World) (t : TypeId) (z0 z1 z2 z3 : Int) : ∀ i, i < 4 → ∃ z : Int, (w.alloc (.cells #[.int .i64 z0, .int .i64 z1, .int .i64 z2, .int .i64 z3] t)).cell? ⟨w.heap.size, i, none⟩ = some (.int .i64 z) := by
  intro i hi
  have : i = 0 ∨ i = 1 ∨ i = 2 ∨ i = 3 := by omega
  rcases this with rfl | rfl | rfl | rfl
  · exact ⟨z0, by simp⟩
  · exact ⟨z1, by simp⟩
  · exact ⟨z2, by simp⟩
  · exact ⟨z3, by simp⟩
end Go.Proofs.Ytmhednkbpniphaa
