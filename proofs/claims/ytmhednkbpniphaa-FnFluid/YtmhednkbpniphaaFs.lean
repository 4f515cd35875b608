/-
  Plain facts of parts: they grow with their weights, each is one at least, equal ones are alike and together no more than the room.
-/
import Derived.Test.YtmhednkbpniphaaUd
namespace Go.Proofs.Ytmhednkbpniphaa.Fd

theorem part_mono {r x y all : Int} (hr : 0 ≤ r) (hx : 0 ≤ x) (hxy : x ≤ y) (ha : 0 < all) : part r x all ≤ part r y all := by
  have h0 : 0 ≤ r * x / all := Int.ediv_nonneg (Int.mul_nonneg hr hx) (by omega)
  have h1 : r * x / all ≤ r * y / all := Int.ediv_le_ediv ha (Int.mul_le_mul_of_nonneg_left hxy hr)
  unfold part
  split <;> split <;> omega
theorem part_one {r x all : Int} (hr : 0 ≤ r) (hx : 0 ≤ x) (ha : 0 < all) : 1 ≤ part r x all := by
  have h0 : 0 ≤ r * x / all := Int.ediv_nonneg (Int.mul_nonneg hr hx) (by omega)
  unfold part
  split <;> omega
theorem rt_mono {m n : Int} (hm : 0 ≤ m) (h : m ≤ n) : Rt.rt m ≤ Rt.rt n := by
  obtain ⟨a0, a1, a2⟩ := Rt.rt_spec m hm
  obtain ⟨b0, b1, b2⟩ := Rt.rt_spec n (by omega)
  generalize Rt.rt m = x at *
  generalize Rt.rt n = y at *
  rcases Int.lt_or_le y x with q | q
  · exfalso
    have := Int.mul_le_mul (show y + 1 ≤ x by omega) (show y + 1 ≤ x by omega) (by omega) (by omega)
    omega
  · exact q
theorem sum_pos {ws : List Int} {n : Nat} (hn : ws.length = n) (h0 : 0 < n) (h8 : n ≤ 8) (h : Pf.allB ws 1 1000 = true) : 0 < ws.sum := by have := (sum_wide hn h0 h8 h).1; omega
end Go.Proofs.Ytmhednkbpniphaa.Fd
namespace Go.Proofs.Ytmhednkbpniphaa
open Go.RowKit
theorem tiL_at {fs : List Int} {r : Int} (h : Fd.roomB fs r = true) {i : Nat} (hi : i < fs.length) : 1 ≤ (tiL fs r).getD i 0 := by
  obtain ⟨hf, r0, r1⟩ := Fd.roomB_yes h
  obtain ⟨n1, n8, _⟩ := Sh.flowB_yes hf
  have hs := Fd.sum_pos rfl (by omega) (by omega) (Fd.flow_all hf)
  unfold tiL
  rw [Fd.parts_at r fs hi]
  have := Sh.flowB_at hf hi
  exact Fd.part_one (by omega) (by omega) hs
theorem tiL_mono {fs : List Int} {r : Int} (h : Fd.roomB fs r = true) {i k : Nat} (hi : i < fs.length) (hk : k < fs.length) (hlt : fs.getD i 0 < fs.getD k 0) : (tiL fs r).getD i 0 ≤ (tiL fs r).getD k 0 := by
  obtain ⟨hf, r0, r1⟩ := Fd.roomB_yes h
  obtain ⟨n1, n8, _⟩ := Sh.flowB_yes hf
  have hs := Fd.sum_pos rfl (by omega) (by omega) (Fd.flow_all hf)
  unfold tiL
  rw [Fd.parts_at r fs hi, Fd.parts_at r fs hk]
  have := Sh.flowB_at hf hi
  exact Fd.part_mono (by omega) (by omega) (by omega) hs
theorem roL_at {fs : List Int} {r : Int} (h : Fd.roomB fs r = true) {i : Nat} (hi : i < fs.length) : 1 ≤ (roL fs r).getD i 0 := by
  obtain ⟨hf, r0, r1⟩ := Fd.roomB_yes h
  obtain ⟨n1, n8, _⟩ := Sh.flowB_yes hf
  have hs := Fd.sum_pos (ws := Fd.roots fs) (Fd.roots_len fs) (by omega) (by omega) (Fd.roots_all hf)
  unfold roL
  rw [Fd.parts_at r _ (by rw [Fd.roots_len]; exact hi), Fd.roots_at fs hi]
  have := Sh.flowB_at hf hi
  have := Fd.root_bd this.1 this.2
  exact Fd.part_one (by omega) (by omega) hs
theorem roL_mono {fs : List Int} {r : Int} (h : Fd.roomB fs r = true) {i k : Nat} (hi : i < fs.length) (hk : k < fs.length) (hlt : fs.getD i 0 < fs.getD k 0) : (roL fs r).getD i 0 ≤ (roL fs r).getD k 0 := by
  obtain ⟨hf, r0, r1⟩ := Fd.roomB_yes h
  obtain ⟨n1, n8, _⟩ := Sh.flowB_yes hf
  have hs := Fd.sum_pos (ws := Fd.roots fs) (Fd.roots_len fs) (by omega) (by omega) (Fd.roots_all hf)
  unfold roL
  rw [Fd.parts_at r _ (by rw [Fd.roots_len]; exact hi), Fd.parts_at r _ (by rw [Fd.roots_len]; exact hk), Fd.roots_at fs hi, Fd.roots_at fs hk]
  have := Sh.flowB_at hf hi
  have hb := Fd.root_bd this.1 this.2
  exact Fd.part_mono (by omega) (by omega) (Fd.rt_mono (by omega) (by omega)) hs
theorem eqL_at {fs : List Int} {r : Int} (h : Fd.roomB fs r = true) {i : Nat} (hi : i < fs.length) : (eqL fs r).getD i 0 = r / fs.length := by
  unfold eqL
  rw [Fd.even_eq h]
  simp [Fd.even, hi]
theorem eqL_sum {fs : List Int} {r : Int} (h : Fd.roomB fs r = true) : (eqL fs r).sum ≤ r := by
  obtain ⟨hf, r0, r1⟩ := Fd.roomB_yes h
  obtain ⟨n1, n8, _⟩ := Sh.flowB_yes hf
  unfold eqL
  rw [Fd.even_eq h]
  have e : (Fd.even fs r).sum = fs.length * (r / fs.length) := by simp [Fd.even]
  rw [e]
  exact Int.mul_ediv_self_le (by omega)
theorem eqL_all {fs : List Int} {r : Int} (h : Fd.roomB fs r = true) : Pf.allB (eqL fs r) (-10000000) 10000000 = true := Pf.allB_of fun i hi => by
  rw [eqL_len] at hi
  rw [eqL_at h hi]
  obtain ⟨hf, r0, r1⟩ := Fd.roomB_yes h
  have h0 : 0 ≤ r / (fs.length : Int) := Int.ediv_nonneg (by omega) (by omega)
  have h1 : r / (fs.length : Int) ≤ r := Int.ediv_le_self _ (by omega)
  exact Pf.inB_of (by omega) (by omega)
/-- What the law asks of two kinds. -/
theorem parts_law {fs : List Int} {n : Nat} {r : Int} (hn : Hid (fs.length = n)) (h : Hid (Fd.roomB fs r = true)) {i k : Nat} (hi : i < n) (hk : k < n) :
    (fs.getD i 0 < fs.getD k 0 → (roL fs r).getD i 0 ≤ (roL fs r).getD k 0 ∧ (tiL fs r).getD i 0 ≤ (tiL fs r).getD k 0) ∧ (eqL fs r).getD i 0 = (eqL fs r).getD k 0 ∧ 1 ≤ (roL fs r).getD i 0 ∧ 1 ≤ (tiL fs r).getD i 0 := by
  have hn := hn.out
  have h := h.out
  subst hn
  exact ⟨fun hlt => ⟨roL_mono h hi hk hlt, tiL_mono h hi hk hlt⟩, by rw [eqL_at h hi, eqL_at h hk], roL_at h hi, tiL_at h hi⟩
end Go.Proofs.Ytmhednkbpniphaa
