/-
  Plain facts, of no program: a room parted by weights.
-/
import Derived.Test.YtmhednkbpniphaaSa
import Derived.Test.YtmhednkbpniphaaRt
namespace Go.Proofs.Ytmhednkbpniphaa.Fd

def fluidB (fs cs : List Int) : Bool := Sh.flowB fs && decide (cs.length = fs.length) && Pf.allB cs 1 1000
def roomB (fs : List Int) (r : Int) : Bool := Sh.flowB fs && Pf.inB r 8 1000
theorem fluidB_yes {fs cs : List Int} (h : fluidB fs cs = true) : Sh.flowB fs = true ∧ cs.length = fs.length ∧ Pf.allB cs 1 1000 = true := by
  simp only [fluidB, Bool.and_eq_true, decide_eq_true_eq] at h
  exact ⟨h.1.1, h.1.2, h.2⟩
theorem fluidB_at {fs cs : List Int} (h : fluidB fs cs = true) {i : Nat} (hi : i < fs.length) : 1 ≤ cs.getD i 0 ∧ cs.getD i 0 ≤ 1000 := Pf.inB_yes (Pf.allB_get (fluidB_yes h).2.2 (by rw [(fluidB_yes h).2.1]; exact hi))
theorem roomB_yes {fs : List Int} {r : Int} (h : roomB fs r = true) : Sh.flowB fs = true ∧ 8 ≤ r ∧ r ≤ 1000 := by
  simp only [roomB, Bool.and_eq_true] at h
  exact ⟨h.1, Pf.inB_yes h.2⟩

/-- A part of a room, by its weight among all. -/
def part (r x all : Int) : Int := if r * x / all = 0 then 1 else r * x / all
def parts (r : Int) (ws : List Int) : List Int := ws.map fun x => part r x ws.sum
theorem parts_len (r : Int) (ws : List Int) : (parts r ws).length = ws.length := by simp [parts]
theorem parts_at (r : Int) (ws : List Int) {i : Nat} (hi : i < ws.length) : (parts r ws).getD i 0 = part r (ws.getD i 0) ws.sum := by
  simp [parts, hi]
theorem part_max {r x all : Int} (hr : 0 ≤ r) (hx : 0 ≤ x) (ha : 0 < all) : (if 1 < r * x / all then r * x / all else 1) = part r x all := by
  have h : 0 ≤ r * x / all := Int.ediv_nonneg (Int.mul_nonneg hr hx) (by omega)
  unfold part
  split <;> split <;> omega
theorem part_max' {r x all : Int} (hr : 0 ≤ r) (hx : 0 ≤ x) (ha : 0 < all) : max 1 (r * x / all) = part r x all := by
  have h : 0 ≤ r * x / all := Int.ediv_nonneg (Int.mul_nonneg hr hx) (by omega)
  unfold part
  split <;> omega
def ones (fs : List Int) : List Int := List.replicate fs.length 1
def roots (fs : List Int) : List Int := fs.map fun f => Rt.rt (10000 * f)
theorem roots_len (fs : List Int) : (roots fs).length = fs.length := by simp [roots]
theorem roots_at (fs : List Int) {i : Nat} (hi : i < fs.length) : (roots fs).getD i 0 = Rt.rt (10000 * fs.getD i 0) := by simp [roots, hi]
theorem ones_sum (fs : List Int) : (ones fs).sum = fs.length := by simp [ones]
/-- As even as can be: room for each, down. -/
def even (fs : List Int) (r : Int) : List Int := List.replicate fs.length (r / fs.length)
theorem even_eq {fs : List Int} {r : Int} (h : roomB fs r = true) : parts r (ones fs) = even fs r := by
  obtain ⟨hf, r0, r1⟩ := roomB_yes h
  obtain ⟨n1, n8, _⟩ := Sh.flowB_yes hf
  unfold parts even
  rw [ones_sum]
  unfold ones
  rw [List.map_replicate]
  congr 1
  unfold part
  have : 1 ≤ r / (fs.length : Int) := by
    rw [Int.le_ediv_iff_mul_le (by omega)]; omega
  rw [Int.mul_one]
  split <;> omega
theorem root_bd {f : Int} (f0 : 1 ≤ f) (f1 : f ≤ 30) : 100 ≤ Rt.rt (10000 * f) ∧ Rt.rt (10000 * f) ≤ 548 := by
  obtain ⟨h0, h1, h2⟩ := Rt.rt_spec (10000 * f) (by omega)
  generalize Rt.rt (10000 * f) = r at *
  constructor
  · by_cases h : 100 ≤ r
    · exact h
    · have := Int.mul_le_mul (show r + 1 ≤ 100 by omega) (show r + 1 ≤ 100 by omega) (by omega) (by omega)
      omega
  · by_cases h : r ≤ 548
    · exact h
    · have := Int.mul_le_mul (show 549 ≤ r by omega) (show 549 ≤ r by omega) (by omega) (by omega)
      omega
theorem allB_wide {xs : List Int} {lo hi lo' hi' : Int} (h : Pf.allB xs lo hi = true) (h0 : lo' ≤ lo) (h1 : hi ≤ hi') : Pf.allB xs lo' hi' = true :=
  Pf.allB_of fun i hi => by have := Pf.inB_yes (Pf.allB_get h hi); exact Pf.inB_of (by omega) (by omega)
theorem ones_all (fs : List Int) : Pf.allB (ones fs) 1 1000 = true := Pf.allB_of fun i hi => by
  have : i < fs.length := by simpa [ones] using hi
  simp [ones, this, Pf.inB]
theorem roots_all {fs : List Int} (h : Sh.flowB fs = true) : Pf.allB (roots fs) 1 1000 = true := Pf.allB_of fun i hi => by
  rw [roots_len] at hi
  rw [roots_at fs hi]
  have := Sh.flowB_at h hi
  have := root_bd this.1 this.2
  exact Pf.inB_of (by omega) (by omega)
theorem flow_all {fs : List Int} (h : Sh.flowB fs = true) : Pf.allB fs 1 1000 = true := allB_wide (Sh.flowB_yes h).2.2 (by omega) (by omega)
theorem part_bd {r x all : Int} (r0 : 8 ≤ r) (r1 : r ≤ 1000) (x0 : 1 ≤ x) (x1 : x ≤ 1000) (ha : 0 < all) : 0 ≤ r * x ∧ r * x ≤ 1000000 ∧ 0 ≤ r * x / all ∧ r * x / all ≤ 1000000 := by
  have a := Int.mul_nonneg (show 0 ≤ r by omega) (show 0 ≤ x by omega)
  have b := Int.mul_le_mul r1 x1 (by omega) (by omega)
  have c := Int.ediv_nonneg a (show 0 ≤ all by omega)
  have d := Int.ediv_le_self all a
  omega
end Go.Proofs.Ytmhednkbpniphaa.Fd
