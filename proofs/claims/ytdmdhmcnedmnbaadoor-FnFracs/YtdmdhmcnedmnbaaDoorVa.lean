/-
  What SubFrac, MulFrac, DivFrac, FracOf answer at any arguments, in one word each; what DrawFracOf and DrawFracText hand out; some fractions in variables of the law's own.
-/
import Derived.Test.YtdmdhmcnedmnbaaDoorH
import Derived.Test.YtdmdhmcnedmnbaaDoorI
import Derived.Test.YtdmdhmcnedmnbaaDoorT
import Derived.Test.YtdmdhmcnedmnbaaDoorMath2
namespace Go.Proofs.YtdmdhmcnedmnbaaDoor
open Go.RowKit

theorem subF_any (n1 d1 n2 d2 : Int) (w : World) :
    Calls Tryd.prog 7 #[.agg #[.int .i64 n1, .int .i64 d1], .agg #[.int .i64 n2, .int .i64 d2]] w fun e w' => e = .returned (.tuple #[.agg #[.int .i64 (Fr.subN n1 d1 n2 d2), .int .i64 (Fr.subD n1 d1 n2 d2)], .bool (Fr.subB n1 d1 n2 d2)]) ∧ Below w.heap.size w w' := by
  unfold Fr.subN Fr.subD Fr.subB
  cases h1 : Fr.goodB n1 d1
  · simpa using sub_no1 n1 d1 n2 d2 w h1
  · cases h2 : Fr.goodB n2 d2
    · simpa using sub_no2 n1 d1 n2 d2 w h1 h2
    · simpa using sub_yes n1 d1 n2 d2 w h1 h2
theorem sSubF_any (n1 d1 n2 d2 : Int) (w : World) :
    Calls Tryd.prog 8 #[.agg #[.int .i64 n1, .int .i64 d1], .agg #[.int .i64 n2, .int .i64 d2]] w fun e w' => e = .returned (.tuple #[.agg #[.int .i64 (Fr.subN n1 d1 n2 d2), .int .i64 (Fr.subD n1 d1 n2 d2)], .bool (Fr.subB n1 d1 n2 d2)]) ∧ Below w.heap.size w w' := by
  unfold Fr.subN Fr.subD Fr.subB
  cases h1 : Fr.goodB n1 d1
  · simpa using sSub_no n1 d1 n2 d2 w (by rw [h1]; rfl)
  · cases h2 : Fr.goodB n2 d2
    · simpa using sSub_no n1 d1 n2 d2 w (by rw [h1, h2]; rfl)
    · simpa using sSub_yes n1 d1 n2 d2 w h1 h2
theorem mulF_any (n1 d1 n2 d2 : Int) (w : World) :
    Calls Tryd.prog 9 #[.agg #[.int .i64 n1, .int .i64 d1], .agg #[.int .i64 n2, .int .i64 d2]] w fun e w' => e = .returned (.tuple #[.agg #[.int .i64 (Fr.mulN n1 d1 n2 d2), .int .i64 (Fr.mulD n1 d1 n2 d2)], .bool (Fr.mulB n1 d1 n2 d2)]) ∧ Below w.heap.size w w' := by
  unfold Fr.mulN Fr.mulD Fr.mulB
  cases h1 : Fr.goodB n1 d1
  · simpa using mul_no1 n1 d1 n2 d2 w h1
  · cases h2 : Fr.goodB n2 d2
    · simpa using mul_no2 n1 d1 n2 d2 w h1 h2
    · simpa using mul_yes n1 d1 n2 d2 w h1 h2
theorem sMulF_any (n1 d1 n2 d2 : Int) (w : World) :
    Calls Tryd.prog 10 #[.agg #[.int .i64 n1, .int .i64 d1], .agg #[.int .i64 n2, .int .i64 d2]] w fun e w' => e = .returned (.tuple #[.agg #[.int .i64 (Fr.mulN n1 d1 n2 d2), .int .i64 (Fr.mulD n1 d1 n2 d2)], .bool (Fr.mulB n1 d1 n2 d2)]) ∧ Below w.heap.size w w' := by
  unfold Fr.mulN Fr.mulD Fr.mulB
  cases h1 : Fr.goodB n1 d1
  · simpa using sMul_no n1 d1 n2 d2 w (by rw [h1]; rfl)
  · cases h2 : Fr.goodB n2 d2
    · simpa using sMul_no n1 d1 n2 d2 w (by rw [h1, h2]; rfl)
    · simpa using sMul_yes n1 d1 n2 d2 w h1 h2
theorem good_zero {d : Int} (h : Fr.goodB 0 d = true) : d = 1 := by
  unfold Fr.goodB Fr.g at h
  simp only [decide_eq_true_eq] at h
  obtain ⟨_, _, h3, _, h5⟩ := h
  simp at h5
  omega
theorem divF_any (n1 d1 n2 d2 : Int) (w : World) :
    Calls Tryd.prog 11 #[.agg #[.int .i64 n1, .int .i64 d1], .agg #[.int .i64 n2, .int .i64 d2]] w fun e w' => e = .returned (.tuple #[.agg #[.int .i64 (Fr.divN n1 d1 n2 d2), .int .i64 (Fr.divD n1 d1 n2 d2)], .bool (Fr.divB n1 d1 n2 d2)]) ∧ Below w.heap.size w w' := by
  unfold Fr.divN Fr.divD Fr.divB
  cases h1 : Fr.goodB n1 d1
  · simpa using div_no1 n1 d1 n2 d2 w h1
  · cases h2 : Fr.goodB n2 d2
    · simpa using div_no2 n1 d1 n2 d2 w h1 h2
    · by_cases hz : n2 = 0
      · subst hz
        obtain rfl := good_zero h2
        simpa using div_zero n1 d1 w h1 h2
      · have hz' : (n2 != 0) = true := by simpa using hz
        simpa [hz'] using div_yes n1 d1 n2 d2 w h1 h2 hz
theorem sDivF_any (n1 d1 n2 d2 : Int) (w : World) :
    Calls Tryd.prog 12 #[.agg #[.int .i64 n1, .int .i64 d1], .agg #[.int .i64 n2, .int .i64 d2]] w fun e w' => e = .returned (.tuple #[.agg #[.int .i64 (Fr.divN n1 d1 n2 d2), .int .i64 (Fr.divD n1 d1 n2 d2)], .bool (Fr.divB n1 d1 n2 d2)]) ∧ Below w.heap.size w w' := by
  unfold Fr.divN Fr.divD Fr.divB
  cases h1 : Fr.goodB n1 d1
  · simpa using sDiv_no n1 d1 n2 d2 w (by rw [h1]; rfl)
  · cases h2 : Fr.goodB n2 d2
    · simpa using sDiv_no n1 d1 n2 d2 w (by rw [h1, h2]; rfl)
    · by_cases hz : n2 = 0
      · subst hz
        simpa using sDiv_zero n1 d1 d2 w h1 h2
      · have hz' : (n2 != 0) = true := by simpa using hz
        simpa [hz'] using sDiv_yes n1 d1 n2 d2 w h1 h2 hz

def ofB (n d : Int) : Bool := Fr.partB n && Fr.partB d && d != 0
def ofN (n d : Int) : Int := if ofB n d = true then Fr.mkN n d else 0
def ofD (n d : Int) : Int := if ofB n d = true then Fr.mkD n d else 0
theorem ofF_any (n d : Int) (w : World) :
    Calls Tryd.prog 16 #[.int .i64 n, .int .i64 d] w fun e w' => e = .returned (.tuple #[.agg #[.int .i64 (ofN n d), .int .i64 (ofD n d)], .bool (ofB n d)]) ∧ Below w.heap.size w w' := by
  unfold ofN ofD ofB
  cases h1 : Fr.partB n
  · simpa using of_n1 n d w h1
  · cases h2 : Fr.partB d
    · simpa using of_n2 n d w h1 h2
    · by_cases hz : d = 0
      · subst hz
        simpa using of_z n w h1 h2
      · have hz' : (d != 0) = true := by simpa using hz
        simpa [hz'] using of_yes n d w h1 h2 hz
theorem sofF_any (n d : Int) (w : World) :
    Calls Tryd.prog 17 #[.int .i64 n, .int .i64 d] w fun e w' => e = .returned (.tuple #[.agg #[.int .i64 (ofN n d), .int .i64 (ofD n d)], .bool (ofB n d)]) ∧ Below w.heap.size w w' := by
  unfold ofN ofD ofB
  cases h1 : Fr.partB n
  · simpa using sof_n1 n d w h1
  · cases h2 : Fr.partB d
    · simpa using sof_n2 n d w h1 h2
    · by_cases hz : d = 0
      · subst hz
        simpa using sof_z n w h1 h2
      · have hz' : (d != 0) = true := by simpa using hz
        simpa [hz'] using sof_yes n d w h1 h2 hz

set_option maxHeartbeats 1000000 in
theorem drawText_any (a : Option Addr) (len cap : Nat) (w : World) (hs : Src w a len) :
    Calls Tryd.prog 18 #[.slice a len cap] w fun e w' => ∃ n d : Int, e = .returned (.agg #[.int .i64 n, .int .i64 d]) ∧ Below w.heap.size w w' := by
  have HS := hide (hs.below (below_alloc w (.cells #[.int .i64 0, .int .i64 0] 24)))
  clear hs
  go_enter Tryd.func18, Tryd.ntmps18
  go_wp2_with fail
  refine (drawGood_any a len cap _ HS.out).mono ?_
  rintro e w1 ⟨n, d, rfl, hb1⟩
  obtain ⟨hc1, hf1⟩ := bcell hb1
  go_wp2_with fail
  exact bodyPost_ret (v := .agg #[.int .i64 n, .int .i64 d]) (by simp [results, Tryd.results18, go_sem, hc1]) rfl ⟨n, d, rfl, ((((Below.refl _ _).alloc (Nat.le_refl _) _).trans (hb1.mono (by simp))).setCell (Nat.le_refl _) _).setCell (Nat.le_refl _) _⟩

theorem row_cells (w : World) (vs : List Int) (t : TypeId) : ∀ i, i < vs.length → ∃ z : Int, (w.alloc (.cells (vs.map fun x => Value.int .i64 x).toArray t)).cell? ⟨w.heap.size, i, none⟩ = some (.int .i64 z) := by
  intro i hi
  refine ⟨vs.getD i 0, ?_⟩
  simp only [World.cell?, (MapKept.heap_alloc w _).1]
  simp [hi]
theorem nine_of (w : World) (o : Obj) : ∀ i, i < 9 → ∃ z : Int, ((w.alloc o).alloc (.cells #[.int .i64 0, .int .i64 1, .int .i64 (-6), .int .i64 4, .int .i64 100, .int .i64 1000000000, .int .i64 (-1000000000), .int .i64 1000000001, .int .i64 35] 3)).cell? ⟨w.heap.size + 1, i, none⟩ = some (.int .i64 z) := by
  intro i hi
  have := row_cells (w.alloc o) [0, 1, -6, 4, 100, 1000000000, -1000000000, 1000000001, 35] 3 i hi
  rw [World.size_alloc] at this
  exact this
set_option maxHeartbeats 1000000 in
theorem drawOf_any (a : Option Addr) (len cap : Nat) (w : World) (hs : Src w a len) :
    Calls Tryd.prog 15 #[.slice a len cap] w fun e w' => ∃ n d : Int, e = .returned (.tuple #[.int .i64 n, .int .i64 d]) ∧ Below w.heap.size w w' := by
  have HC := hide (cur_new (cap := cap) hs)
  clear hs
  go_enter Tryd.func15, Tryd.ntmps15
  go_wp2_with fail
  have hcb := HC.out.below (below_alloc _ (.cells #[.int .i64 0, .int .i64 1, .int .i64 (-6), .int .i64 4, .int .i64 100, .int .i64 1000000000, .int .i64 (-1000000000), .int .i64 1000000001, .int .i64 35] 3))
  refine (among_any (l := 9) hcb (by omega) (by omega) (by omega) (by simp) (by omega) (nine_of w _)).mono ?_
  rintro e w1 ⟨x, rfl, hc1, hk1⟩
  have TAB := hide (fun (i : Nat) (hi : i < 9) => (show ∃ z : Int, w1.cell? ⟨w.heap.size + 1, i, none⟩ = some (.int .i64 z) from by
    obtain ⟨z, hz⟩ := nine_of w (.cells #[.slice a len cap, .int .i64 0, .int .u64 0] 40) i hi
    exact ⟨z, (hk1.cell (b := w.heap.size + 1) (o := i) (by simp) (by omega)).trans hz⟩))
  have hz1 : w.heap.size + 1 < w1.heap.size := by have := hk1.size; simp at this; omega
  have hB1 : Below w.heap.size w w1 := (((Below.refl _ _).alloc (Nat.le_refl _) _).alloc (by simp) _).trans (hk1.below (Nat.le_refl _) (by simp; omega))
  have HC1 := hide hc1
  clear hc1 hk1 hcb HC
  go_wp2_with fail
  refine (among_any (l := 9) HC1.out (by omega) (by omega) (by omega) hz1 (by omega) TAB.out).mono ?_
  rintro e w2 ⟨y, rfl, hc2, hk2⟩
  have hB2 : Below w.heap.size w w2 := hB1.trans (hk2.below (Nat.le_refl _) (by omega))
  clear hc2 hk2 HC1 TAB
  go_wp2_with fail
  go_ret2
  exact ⟨x, y, rfl, hB2⟩

/-- Fractions in variables of the law's own: block, Num, Den. -/
def Vs (w : World) (l : List (Nat × Int × Int)) : Prop := ∀ x ∈ l, x.1 < w.heap.size ∧ w.cell? ⟨x.1, 0, none⟩ = some (.int .i64 x.2.1) ∧ w.cell? ⟨x.1, 1, none⟩ = some (.int .i64 x.2.2)
theorem Vs.nil (w : World) : Vs w [] := fun _ h => by cases h
theorem Vs.below {w w' : World} {l : List (Nat × Int × Int)} (h : Vs w l) (hb : Below w.heap.size w w') : Vs w' l := by
  intro x hx
  obtain ⟨h0, h1, h2⟩ := h x hx
  obtain ⟨hc, _⟩ := bcell hb
  exact ⟨Nat.lt_of_lt_of_le h0 hb.size, (hc _ _ h0).trans h1, (hc _ _ h0).trans h2⟩
theorem Vs.add {w : World} {l : List (Nat × Int × Int)} (h : Vs w l) (n d : Int) (t : TypeId) : Vs (w.alloc (.cells #[.int .i64 n, .int .i64 d] t)) ((w.heap.size, n, d) :: l) := by
  intro x hx
  rcases List.mem_cons.1 hx with rfl | hx
  · exact ⟨by simp, by simp [go_sem], by simp [go_sem]⟩
  · exact (h.below (below_alloc w _)) x hx
theorem Vs.at {w : World} {l : List (Nat × Int × Int)} (h : Vs w l) {p : Nat} {n d : Int} (hm : (p, n, d) ∈ l) : p < w.heap.size ∧ w.cell? ⟨p, 0, none⟩ = some (.int .i64 n) ∧ w.cell? ⟨p, 1, none⟩ = some (.int .i64 d) := h _ hm
end Go.Proofs.YtdmdhmcnedmnbaaDoor
