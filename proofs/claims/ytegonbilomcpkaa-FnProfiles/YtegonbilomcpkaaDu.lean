/-
  Draws: what every list that the model's cursor draws needs (as in Da, Sc, Si, for seats without chapter 4).
-/
import Derived.Test.YtegonbilomcpkaaS
import Derived.Test.YtegonbilomcpkaaPg
import Derived.Test.YtegonbilomcpkaaGp
import Derived.Deep.DeepCutAuto
import Derived.Deep.RegionHeld3
import Derived.Laws.AppendOwn
import Derived.Laws.OwnMore
namespace Go.Proofs.Ytegonbilomcpkaa
open Go.RowKit

theorem own_far {w : World} {base e s n k : Nat} {v : Value} {xs : List Value} (h : w.ownsRow base e s v n xs) (hk : k < base) : some k ≠ v.ownBlock := by
  rcases h.2 with ⟨rfl, _⟩ | ⟨g, cap, cur, rfl, hb, _⟩
  · simp [Value.ownBlock]
  · simp [Value.ownBlock]; omega
theorem infI : (Try.prog.info? 3).map (fun i => (i.zero, i.size, i.bytes)) = some (some (.int .i64 0), 1, 8) := by kernel_rfl
theorem intI_cells (xs : List Int) : ∀ u ∈ ints xs, u.oneCell' = true := by
  intro u hu
  simp only [ints, List.mem_map] at hu
  obtain ⟨x, _, rfl⟩ := hu; rfl
theorem newI_one (w : World) (x : Int) {H : Nat} (hH : w.heap.size = H) : ∀ (j : Nat) (u : Value), (ints [x])[j]? = some u → (w.alloc (.cells #[.int .i64 x] 3)).cell? ((⟨H, 0, none⟩ : Addr).add j) = some u := by
  intro j u hj
  subst hH
  match j, hj with
  | 0, hj => simp [ints] at hj; subst hj; simp [Addr.add]
theorem own_some {w : World} {base e s n : Nat} {v : Value} {xs : List Value} (h : w.ownsRow base e s v n xs) (hn : n ≠ 0) : ∃ g cap, v = .slice (some ⟨g, 0, none⟩) n cap ∧ base ≤ g ∧ g < w.heap.size := by
  rcases h.2 with ⟨_, h0⟩ | ⟨g, cap, cur, hv, hb, hg, _⟩
  · exact absurd h0 hn
  · exact ⟨g, cap, hv, hb, (Array.getElem?_eq_some_iff.1 hg).1⟩
theorem Cur.blocks {w w' : World} {c len cap N : Nat} {a : Option Addr} (h : Cur w c a len cap N) (hs : w.heap.size ≤ w'.heap.size) (hc : w'.heap[c]? = w.heap[c]?)
    (hb : ∀ b off, a = some ⟨b, off, none⟩ → 0 < len → w'.heap[b]? = w.heap[b]?) : Cur w' c a len cap N := by
  obtain ⟨h0, h1, ⟨x, h2, h2'⟩, ⟨y, h3, h3', h3''⟩, h4, h5, h6, h7⟩ := h
  have ec : ∀ o, w'.cell? ⟨c, o, none⟩ = w.cell? ⟨c, o, none⟩ := fun o => World.cell?_of_block (w := w) hc
  have ef : ∀ o, w'.frozen? ⟨c, o, none⟩ = w.frozen? ⟨c, o, none⟩ := fun o => World.frozen?_of_block (w := w) hc
  refine ⟨Nat.lt_of_lt_of_le h0 hs, (ec 0).trans h1, ⟨x, (ec 1).trans h2, h2'⟩, ⟨y, (ec 2).trans h3, h3', h3''⟩, (ef 1).trans h4, (ef 2).trans h5, ?_, ?_⟩
  · rcases h6 with h | ⟨b, off, rfl, hbb⟩
    · exact Or.inl h
    · refine Or.inr ⟨b, off, rfl, fun i hi => ?_⟩
      obtain ⟨z, hz, hz'⟩ := hbb i hi
      exact ⟨z, (World.cell?_of_block (w := w) (hb b off rfl (by omega))).trans hz, hz'⟩
  · intro b off e hl
    obtain ⟨hne, hlt⟩ := h7 b off e hl
    exact ⟨hne, Nat.lt_of_lt_of_le hlt hs⟩
theorem Cur.old {w : World} {c len cap N : Nat} {a : Option Addr} (h : Cur w c a len cap N) : ∀ b off, a = some ⟨b, off, none⟩ → 0 < len → b < w.heap.size := fun b off e hl => (h.2.2.2.2.2.2.2 b off e hl).2
/-- What is owned, apart from the cursor. -/
theorem own_kp {w w' : World} {c base e s n : Nat} {v : Value} {xs : List Value} (h : w.ownsRow base e s v n xs) (hk : Kp c w w') (hc : c < base) : w'.ownsRow base e s v n xs := by
  refine ⟨h.1, ?_⟩
  rcases h.2 with h0 | ⟨g, cap, cur, hv, hb, hg, r⟩
  · exact Or.inl h0
  · exact Or.inr ⟨g, cap, cur, hv, hb, (hk.block g (Array.getElem?_eq_some_iff.1 hg).1 (by omega)).trans hg, r⟩
theorem kp_grow {w w3 w4 : World} {o : Obj} {c e s n : Nat} {v : Value} {xs : List Value} (h : Kp c w w3) (own : w3.ownsRow w.heap.size e s v n xs) (hg : (w3.alloc o).grownBy w4 v.ownBlock) : Kp c w w4 := by
  have hz := h.size
  refine ⟨hg.os.trans h.os, hg.tape.trans h.tape, hg.output.trans h.output, by have := hg.size; simp at this; omega, fun k hk hne => ?_⟩
  rw [hg.block k (by simp; omega) (own_far own hk), Below.heap_alloc w3 o k (by omega)]
  exact h.block k hk hne
theorem cur_grow {w w3 w4 : World} {o : Obj} {c e s n len cap N : Nat} {a : Option Addr} {v : Value} {xs : List Value} (hc : Cur w3 c a len cap N) (hcw : c < w.heap.size) (hold : ∀ b off, a = some ⟨b, off, none⟩ → 0 < len → b < w.heap.size) (hs : w.heap.size ≤ w3.heap.size)
    (own : w3.ownsRow w.heap.size e s v n xs) (hg : (w3.alloc o).grownBy w4 v.ownBlock) : Cur w4 c a len cap N := by
  have blk : ∀ k, k < w.heap.size → w4.heap[k]? = w3.heap[k]? := fun k hk => by rw [hg.block k (by simp; omega) (own_far own hk), Below.heap_alloc w3 o k (by omega)]
  exact hc.blocks (by have := hg.size; simp at this; omega) (blk c hcw) (fun b off e hl => blk b (hold b off e hl))
theorem kp_set {w w3 : World} {c g o : Nat} {v : Value} (h : Kp c w w3) (hg : w.heap.size ≤ g) : Kp c w (w3.setCell ⟨g, o, none⟩ v) := h.setNew hg o v
theorem cur_set {w w3 : World} {c g o len cap N : Nat} {a : Option Addr} {v : Value} (hc : Cur w3 c a len cap N) (hcw : c < w.heap.size) (hold : ∀ b off, a = some ⟨b, off, none⟩ → 0 < len → b < w.heap.size) (hg : w.heap.size ≤ g) : Cur (w3.setCell ⟨g, o, none⟩ v) c a len cap N :=
  hc.set (by omega) (fun b off e hl => by have := hold b off e hl; omega)
theorem own_slice {w : World} {base n : Nat} {v : Value} {xs : List Int} (hx : xs.length = n) (h : w.ownsRow base 3 1 v n (ints xs)) : ∃ a cap, v = .slice a n cap ∧ ARow w a xs := by
  rcases h.2 with ⟨rfl, hn⟩ | ⟨g, cap, cur, rfl, _⟩
  · subst hn; exact ⟨none, 0, rfl, Or.inl (List.length_eq_zero_iff.1 hx)⟩
  · exact ⟨_, _, rfl, arow_owns hx.symm h⟩

set_option maxRecDepth 100000 in
set_option maxHeartbeats 400000 in
theorem amongB_any {c len cap N b l k : Nat} {lo hi : Int} {a : Option Addr} {w : World} (hc : Cur w c a len cap N) (hN : N ≤ 900000000) (hl : 0 < l) (hl1 : l ≤ 1000000) (hb : b < w.heap.size) (hne : b ≠ c)
    (hz : ∀ i, i < l → ∃ z : Int, w.cell? ⟨b, i, none⟩ = some (.int .i64 z) ∧ lo ≤ z ∧ z ≤ hi) :
    Calls Try.prog 55 #[.pointer (some ⟨c, 0, none⟩), .slice (some ⟨b, 0, none⟩) l k] w fun e w' => ∃ r : Int, e = .returned (.int .i64 r) ∧ lo ≤ r ∧ r ≤ hi ∧ Cur w' c a len cap (N + 2) ∧ Kp c w w' := by
  have HC := hide hc
  have HZ := hide hz
  clear hc hz
  go_enter Try.func55, Try.ntmps55
  go_wp2_with fail
  refine (pick_any (l : Int) (by omega) HC.out hN).mono ?_
  rintro e w1 ⟨r, rfl, r0, r1, hc1, hk1⟩
  have HC1 := hide hc1
  clear hc1
  obtain ⟨i, rfl⟩ := Int.eq_ofNat_of_zero_le r0
  have hi : i < l := by omega
  have hi' : (i : Int) < (l : Int) := by omega
  obtain ⟨z, hcell, z0, z1⟩ := HZ.out i hi
  have hcell' : w1.cell? ⟨b, i, none⟩ = some (.int .i64 z) := (hk1.cell hb hne).trans hcell
  clear r1
  go_wp2_with fail
  go_ret
  exact ⟨_, rfl, z0, z1, HC1.out, hk1⟩
theorem three_cells (w : World) (t : TypeId) {z0 z1 z2 lo hi : Int} (h0 : lo ≤ z0 ∧ z0 ≤ hi) (h1 : lo ≤ z1 ∧ z1 ≤ hi) (h2 : lo ≤ z2 ∧ z2 ≤ hi) : ∀ i, i < 3 → ∃ z : Int, (w.alloc (.cells #[.int .i64 z0, .int .i64 z1, .int .i64 z2] t)).cell? ⟨w.heap.size, i, none⟩ = some (.int .i64 z) ∧ lo ≤ z ∧ z ≤ hi := by
  intro i hi
  have : i = 0 ∨ i = 1 ∨ i = 2 := by omega
  rcases this with rfl | rfl | rfl
  · exact ⟨z0, by simp, h0⟩
  · exact ⟨z1, by simp, h1⟩
  · exact ⟨z2, by simp, h2⟩
theorem two_cells (w : World) (t : TypeId) {z0 z1 lo hi : Int} (h0 : lo ≤ z0 ∧ z0 ≤ hi) (h1 : lo ≤ z1 ∧ z1 ≤ hi) : ∀ i, i < 2 → ∃ z : Int, (w.alloc (.cells #[.int .i64 z0, .int .i64 z1] t)).cell? ⟨w.heap.size, i, none⟩ = some (.int .i64 z) ∧ lo ≤ z ∧ z ≤ hi := by
  intro i hi
  have : i = 0 ∨ i = 1 := by omega
  rcases this with rfl | rfl
  · exact ⟨z0, by simp, h0⟩
  · exact ⟨z1, by simp, h1⟩

end Go.Proofs.Ytegonbilomcpkaa
