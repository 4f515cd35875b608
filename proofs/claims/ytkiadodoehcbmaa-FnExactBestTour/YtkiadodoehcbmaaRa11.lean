/-
  Stops, plain: which are good, how far it is from one to another one, what a round costs.
-/
import Derived.Test.YtkiadodoehcbmaaHa
namespace Go.Proofs.Ytkiadodoehcbmaa.Rt

def spotB (s : Int × Int) : Bool := Pf.inB s.1 0 9 && Pf.inB s.2 0 20
def allS (L : List (Int × Int)) : Bool := (List.range L.length).all fun i => spotB (L.getD i (0, 0))
def stopsB (L : List (Int × Int)) : Bool := Pf.inB (L.length : Int) 1 7 && allS L
theorem allS_at {L : List (Int × Int)} (h : allS L = true) {i : Nat} (hi : i < L.length) : spotB (L.getD i (0, 0)) = true := by
  simp only [allS, List.all_eq_true, List.mem_range] at h; exact h i hi
theorem allS_of {L : List (Int × Int)} (h : ∀ i, i < L.length → spotB (L.getD i (0, 0)) = true) : allS L = true := by
  simp only [allS, List.all_eq_true, List.mem_range]; exact h
theorem allS_not {L : List (Int × Int)} {i : Nat} (hi : i < L.length) (h : spotB (L.getD i (0, 0)) = false) : allS L = false := by
  cases e : allS L
  · rfl
  · rw [allS_at e hi] at h; cases h
theorem spot_yes {s : Int × Int} (h : spotB s = true) : (0 ≤ s.1 ∧ s.1 ≤ 9) ∧ 0 ≤ s.2 ∧ s.2 ≤ 20 := by
  simp only [spotB, Bool.and_eq_true] at h
  exact ⟨Pf.inB_yes h.1, Pf.inB_yes h.2⟩
theorem stops_len {L : List (Int × Int)} (h : stopsB L = true) : 1 ≤ L.length ∧ L.length ≤ 7 := by
  simp only [stopsB, Bool.and_eq_true] at h
  have := Pf.inB_yes h.1
  omega
theorem stops_all {L : List (Int × Int)} (h : stopsB L = true) : allS L = true := by
  simp only [stopsB, Bool.and_eq_true] at h; exact h.2
theorem stops_no {L : List (Int × Int)} (h : ¬ (1 ≤ L.length ∧ L.length ≤ 7)) : stopsB L = false := by
  cases e : stopsB L
  · rfl
  · exact absurd (stops_len e) h
/-- From one spot to another one. -/
def way (s t : Int × Int) : Int := if s.1 = t.1 then ((s.2 - t.2).natAbs : Int) else 3 * ((s.1 - t.1).natAbs : Int) + min (s.2 + t.2) (40 - (s.2 + t.2))
theorem way_bd {s t : Int × Int} (hs : spotB s = true) (ht : spotB t = true) : 0 ≤ way s t ∧ way s t ≤ 100 := by
  have h1 := spot_yes hs
  have h2 := spot_yes ht
  unfold way
  split <;> omega
/-- From stop to stop by their numbers. -/
def wy (L : List (Int × Int)) (i j : Nat) : Int := way (L.getD i (0, 0)) (L.getD j (0, 0))
theorem wy_bd {L : List (Int × Int)} (h : allS L = true) {i j : Nat} (hi : i < L.length) (hj : j < L.length) : 0 ≤ wy L i j ∧ wy L i j ≤ 100 := way_bd (allS_at h hi) (allS_at h hj)
/-- The ways between the first of an order, one after the other. -/
def path (L : List (Int × Int)) (os : List Int) : Nat → Int
  | 0 => 0
  | k + 1 => path L os k + wy L (Od.nth os k) (Od.nth os (k + 1))
/-- The round. -/
def tour (L : List (Int × Int)) (os : List Int) : Int := path L os (os.length - 1) + wy L (Od.nth os (os.length - 1)) (Od.nth os 0)
def InB (L : List (Int × Int)) (os : List Int) : Prop := ∀ i, i < os.length → ∃ k : Nat, os.getD i 0 = (k : Int) ∧ k < L.length
theorem InB.nth {L : List (Int × Int)} {os : List Int} (h : InB L os) {i : Nat} (hi : i < os.length) : Od.nth os i < L.length ∧ os.getD i 0 = ((Od.nth os i : Nat) : Int) := by
  obtain ⟨k, e, hk⟩ := h i hi
  have : Od.nth os i = k := by unfold Od.nth; rw [e]; simp
  rw [this]; exact ⟨hk, e⟩
theorem path_bd {L : List (Int × Int)} {os : List Int} (h : allS L = true) (ho : InB L os) : ∀ k, k + 1 ≤ os.length → 0 ≤ path L os k ∧ path L os k ≤ 100 * (k : Int)
  | 0, _ => by simp [path]
  | k + 1, hk => by
    have h1 := path_bd h ho k (by omega)
    have h2 := wy_bd h (ho.nth (show k < os.length by omega)).1 (ho.nth (show k + 1 < os.length by omega)).1
    simp only [path]; omega
theorem tour_bd {L : List (Int × Int)} {os : List Int} (h : allS L = true) (ho : InB L os) (hn : 1 ≤ os.length) : 0 ≤ tour L os ∧ tour L os ≤ 100 * (os.length : Int) := by
  have h1 := path_bd h ho (os.length - 1) (by omega)
  have h2 := wy_bd h (ho.nth (show os.length - 1 < os.length by omega)).1 (ho.nth (show 0 < os.length by omega)).1
  unfold tour; omega
/-- As the program adds: the last way first. -/
def addI (L : List (Int × Int)) (os : List Int) : Nat → Int
  | 0 => 0
  | k + 1 => wy L (Od.nth os (os.length - 1)) (Od.nth os 0) + path L os k
theorem addI_step {L : List (Int × Int)} {os : List Int} {k : Nat} : addI L os (k + 1) = addI L os k + wy L (if k = 0 then Od.nth os (os.length - 1) else Od.nth os (k - 1)) (Od.nth os k) := by
  cases k with
  | zero => simp [addI, path]
  | succ j => simp only [addI, path, Nat.succ_ne_zero, if_false, Nat.add_sub_cancel]; omega
theorem addI_end {L : List (Int × Int)} {os : List Int} {n : Nat} (hn : os.length = n) (h1 : 1 ≤ n) : addI L os n = tour L os := by
  obtain ⟨k, rfl⟩ : ∃ k, n = k + 1 := ⟨n - 1, by omega⟩
  unfold tour
  rw [hn]
  simp only [addI, Nat.add_sub_cancel, hn]; omega
/-- As the model adds: each with the next one, the last one with the first one. -/
def addM (L : List (Int × Int)) (os : List Int) (n : Nat) : Nat → Int
  | 0 => 0
  | k + 1 => addM L os n k + wy L (Od.nth os k) (Od.nth os ((k + 1) % n))
theorem addM_path {L : List (Int × Int)} {os : List Int} {n : Nat} : ∀ k, k < n → addM L os n k = path L os k
  | 0, _ => rfl
  | k + 1, hk => by
    have ih := addM_path (L := L) (os := os) (n := n) k (by omega)
    simp only [addM, path, ih, Nat.mod_eq_of_lt hk]
theorem addM_end {L : List (Int × Int)} {os : List Int} {n : Nat} (hn : os.length = n) (h1 : 1 ≤ n) : addM L os n n = tour L os := by
  obtain ⟨k, rfl⟩ : ∃ k, n = k + 1 := ⟨n - 1, by omega⟩
  unfold tour
  rw [hn]
  have ih := addM_path (L := L) (os := os) (n := k + 1) k (by omega)
  simp only [addM, ih, Nat.mod_self, Nat.add_sub_cancel]
theorem addI_bd {L : List (Int × Int)} {os : List Int} (h : allS L = true) (ho : InB L os) {k : Nat} (hk : k ≤ os.length) : 0 ≤ addI L os k ∧ addI L os k ≤ 100 * (k : Int) := by
  cases k with
  | zero => simp [addI]
  | succ j =>
    have h1 := path_bd h ho j hk
    have h2 := wy_bd h (ho.nth (show os.length - 1 < os.length by omega)).1 (ho.nth (show 0 < os.length by omega)).1
    simp only [addI]; omega
theorem addM_bd {L : List (Int × Int)} {os : List Int} {n : Nat} (h : allS L = true) (ho : InB L os) (hn : os.length = n) : ∀ k, k ≤ n → 0 ≤ addM L os n k ∧ addM L os n k ≤ 100 * (k : Int)
  | 0, _ => by simp [addM]
  | k + 1, hk => by
    have h1 := addM_bd h ho hn k (by omega)
    have h2 := wy_bd h (ho.nth (show k < os.length by omega)).1 (ho.nth (show (k + 1) % n < os.length by rw [hn]; exact Nat.mod_lt _ (by omega))).1
    simp only [addM]; omega
theorem ord_in {L : List (Int × Int)} {os : List Int} (h : Od.ordB os L.length = true) : InB L os := fun i hi => by
  have hl := Od.ordB_len h
  exact ⟨Od.nth os i, Od.nth_cast h (by omega), Od.nth_lt h (by omega)⟩
def tcB (L : List (Int × Int)) (os : List Int) : Bool := stopsB L && Od.ordB os L.length
def tcI (L : List (Int × Int)) (os : List Int) : Int := if tcB L os then tour L os else 0
end Go.Proofs.Ytkiadodoehcbmaa.Rt
