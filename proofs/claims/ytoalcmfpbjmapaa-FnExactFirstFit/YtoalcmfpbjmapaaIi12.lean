/-
  Items sorted by their sizes, the greatest first, by the library's contract; greatestFirst of the program.
-/
import Derived.Test.YtoalcmfpbjmapaaShelf
import Derived.Test.YtoalcmfpbjmapaaIh12
import Derived.Test.YtoalcmfpbjmapaaYf
namespace Go.Proofs.Ytoalcmfpbjmapaa
open Go.RowKit Go.Sort

theorem own_cap2 {w : World} {base e s n g cp : Nat} {xs : List Value} (h : w.ownsRow base e s (.slice (some ⟨g, 0, none⟩) n cp) n xs) : n ≤ cp := by
  rcases h.2 with ⟨h, _⟩ | ⟨g', cap, cur, hv, _, _, hc, _⟩
  · cases h
  · cases hv; exact hc
def cmpT (x y : Int) : Int := if x < y then -1 else if y < x then 1 else 0
theorem cmpT_neg (x y : Int) : decide (cmpT x y < 0) = decide (x < y) := by
  unfold cmpT; split
  · rename_i h; simp [h]
  · rename_i h; split <;> simp <;> omega
set_option maxHeartbeats 400000 in
theorem compT_any (x y : Int) (w : World) :
    Calls Try.prog 55 #[.int .i64 x, .int .i64 y] w fun e w' => e = .returned (.int .i64 (cmpT x y)) ∧ w' = w := by
  have hx : (x != x) = false := by simp
  have hy : (y != y) = false := by simp
  unfold cmpT
  by_cases h1 : x < y
  · rw [if_pos h1]
    go_enter Try.func55, Try.ntmps55
    go_wp2
    go_ret
    exact ⟨rfl, rfl⟩
  · rw [if_neg h1]
    by_cases h2 : y < x
    · rw [if_pos h2]
      go_enter Try.func55, Try.ntmps55
      go_wp2
      go_ret
      exact ⟨rfl, rfl⟩
    · rw [if_neg h2]
      go_enter Try.func55, Try.ntmps55
      go_wp2
      go_ret
      exact ⟨rfl, rfl⟩
set_option maxHeartbeats 400000 in
theorem gfc_any (i x j y : Int) (W : World) :
    Calls Try.prog 54 #[.agg #[.int .i64 i, .int .i64 x], .agg #[.int .i64 j, .int .i64 y]] W fun e w' => e = .returned (.int .i64 (cmpT y x)) ∧ ∃ q os', w' = grow (W.drewN q) os' := by
  go_enter Try.func54, Try.ntmps54
  go_wp2_with fail
  refine (compT_any _ _ _).mono ?_
  rintro e w1 ⟨rfl, rfl⟩
  go_wp2_with fail
  go_ret
  refine ⟨rfl, 0, #[.cells #[.int .i64 i, .int .i64 x] 51, .cells #[.int .i64 j, .int .i64 y] 51], ?_⟩
  rw [alloc_eq_grow, alloc_eq_grow, grow_grow]; rfl
/-- An item as it stands in the row that is sorted. -/
def encT (l : List Int) (m : Nat) (x : Fin (m + 1)) : List Value := [.int .i64 (x.val : Int), .int .i64 (l.getD x.val 0)]
theorem cmpT_lays (l : List Int) (m blk off size : Nat) (w : World) : CmpLays Try.prog 54 #[] (encT l m) 2 (fun x y => cmpT (Rk.val l y.val) (Rk.val l x.val)) blk off size w := by
  intro q os dk _ x y
  exact gfc_any _ _ _ _ _
theorem ltOfT_eq (vs : List Int) (m : Nat) : ltOf (fun x y : Fin (m + 1) => cmpT (Rk.val vs y.val) (Rk.val vs x.val)) = Rk.lt vs m := by
  funext x y
  exact cmpT_neg _ _
def finsT (m : Nat) : List (Fin (m + 1)) := List.finRange (m + 1)
theorem finsT_vals (m : Nat) : Rk.vals m (finsT m) = List.range (m + 1) := by
  apply List.ext_getElem
  · simp [finsT, Rk.vals]
  · intro j h1 h2; simp [finsT, Rk.vals]
theorem finsT_len (m : Nat) : (finsT m).length = m + 1 := by simp [finsT]
theorem flat_at {l : List Int} {m i : Nat} {D : List (Fin (m + 1))} (hi : i < D.length) : (flatK (encT l m) 2 D.toArray)[i * 2]! = .int .i64 (((Rk.vals m D).getD i 0 : Nat) : Int) ∧ (flatK (encT l m) 2 D.toArray)[i * 2 + 1]! = .int .i64 (l.getD ((Rk.vals m D).getD i 0) 0) := by
  have e1 : i * 2 / 2 = i := by omega
  have e2 : (i * 2 + 1) / 2 = i := by omega
  have e3 : i * 2 % 2 = 0 := by omega
  have e4 : (i * 2 + 1) % 2 = 1 := by omega
  have e5 : D.toArray[i]! = D[i] := by rw [getElem!_pos _ i (by simpa using hi)]; simp
  have e6 : (Rk.vals m D).getD i 0 = D[i].val := by simp [Rk.vals, hi]
  rw [get_flatK _ _ _ _ (by simp; omega), get_flatK _ _ _ _ (by simp; omega), e1, e2, e3, e4, e5, e6]
  exact ⟨rfl, rfl⟩
theorem holdsT {w : World} {g base cap m : Nat} {l : List Int} (hl : l.length = m + 1) (h : w.ownsRow base 51 2 (.slice (some ⟨g, 0, none⟩) (m + 1) cap) (m + 1) (ite (its l))) : HoldsK (encT l m) 2 w g 0 (finsT m).toArray := by
  intro j hj
  have hj' : j < (m + 1) * 2 := by simpa [finsT] using hj
  refine ⟨?_, by rw [Nat.zero_add]; exact h.frozenAt j⟩
  rw [Nat.zero_add, h.cellAt j hj']
  obtain ⟨i, hi⟩ : ∃ i, j = i * 2 ∨ j = i * 2 + 1 := ⟨j / 2, by omega⟩
  have him : i < m + 1 := by omega
  obtain ⟨q1, q2⟩ := ite_get (its l) i (by rw [its_len, hl]; exact him)
  obtain ⟨p1, p2⟩ := flat_at (l := l) (D := finsT m) (i := i) (by rw [finsT_len]; exact him)
  rw [its_at (by rw [hl]; exact him)] at q1 q2
  have ev : (Rk.vals m (finsT m)).getD i 0 = i := by rw [finsT_vals]; simp [him]
  rw [ev] at p1 p2
  rcases hi with rfl | rfl
  · rw [q1, p1]; rfl
  · rw [q2, p2]; rfl
/-- The items, the greatest first, alike ones as they stood. -/
def gfL (l : List Int) : List (Int × Int) := (Rk.rank l).map fun (i : Nat) => ((i : Int), l.getD i 0)
theorem gfL_len (l : List Int) : (gfL l).length = l.length := by simp [gfL, Rk.rank_len]
theorem gfL_at {l : List Int} {i : Nat} (hi : i < l.length) : (gfL l).getD i (0, 0) = ((((Rk.rank l).getD i 0 : Nat) : Int), l.getD ((Rk.rank l).getD i 0) 0) := by
  have : i < (Rk.rank l).length := by rw [Rk.rank_len]; exact hi
  simp [gfL, this]
theorem rowT {w : World} {g m : Nat} {l : List Int} {D : List (Fin (m + 1))} (hl : l.length = m + 1) (hD : Rk.vals m D = Rk.rank l) (hg : g < w.heap.size) (h : HoldsK (encT l m) 2 w g 0 D.toArray) : FRow w (some ⟨g, 0, none⟩) (gfL l) := by
  have hn : D.length = m + 1 := by have := congrArg List.length hD; rw [Rk.rank_len, hl] at this; simpa [Rk.vals] using this
  refine Or.inr ⟨g, 0, rfl, hg, fun i hi => ?_⟩
  rw [gfL_len, hl] at hi
  obtain ⟨p1, p2⟩ := flat_at (l := l) (D := D) (i := i) (by omega)
  have h1 := (h (i * 2) (by simp; omega)).1
  have h2 := (h (i * 2 + 1) (by simp; omega)).1
  rw [p1, hD] at h1
  rw [p2, hD] at h2
  rw [gfL_at (by omega), Nat.add_assoc]
  exact ⟨h1, h2⟩
theorem sortK_grown {w : World} {l : List Int} {m g n : Nat} {d : Array (Fin (m + 1))} {os : Array Obj} (_hg : g < w.heap.size) : w.grownBy (sortWorldK (encT l m) 2 w g 0 n d os) (some g) := by
  refine ⟨rfl, rfl, rfl, size_sortWorldK_c _ _ _ _ _ _ _ _, fun k hk hne => ?_⟩
  have : g ≠ k := fun e => hne (by rw [e])
  unfold sortWorldK
  rw [heap_grow_old _ _ (by rw [size_putRowK]; exact hk)]
  simp [putRowK, putRow, mapBlock, Array.getElem?_modify, this, Sort.ahead]
set_option maxHeartbeats 1000000 in
theorem stT_zero {a : Option Addr} {c g : Nat} {w : World} :
    Calls Try.prog 53 #[.slice a 0 c, .func (.func g) #[] #[]] w fun e w' => e = .returned (.tuple #[]) ∧ w' = w := by
  go_enter Try.func53, Try.ntmps53
  go_wp2_with fail
  refine (show Calls Try.prog 62 #[.slice a 0 c, .int .i64 0, .func (.func g) #[] #[]] w fun e w' => e = .returned (.tuple #[]) ∧ w' = w from ?_).mono ?_
  · go_enter Try.func62, Try.ntmps62
    go_wp2_with fail
    go_loop [7, 8] (fun s t => s = .int .i64 0 ∧ t = .int .i64 20) (fun _ _ => 0)
    case atStart => exact ⟨rfl, rfl⟩
    case round =>
      obtain ⟨rfl, rfl⟩ := hrel
      go_wp2_with fail
      refine (show Calls Try.prog 68 #[.slice a 0 c, .int .i64 0, .int .i64 0, .func (.func g) #[] #[]] w fun e w' => e = .returned (.tuple #[]) ∧ w' = w from ?_).mono ?_
      · go_enter Try.func68, Try.ntmps68
        go_wp2_with fail
        go_loop [8] (fun s => s = .int .i64 1) (fun _ => 0)
        case atStart => rfl
        case round =>
          subst hrel
          go_wp2_with fail
          go_end0
          exact ⟨rfl, rfl⟩
      · rintro e w1 ⟨rfl, rfl⟩
        go_wp2_with fail
        go_loop [6, 7, 8, 9] (fun s _ _ _ => s = .int .i64 20) (fun _ _ _ _ => 0)
        case atStart => rfl
        case round =>
          subst hrel
          go_wp2_with fail
          go_end0
          exact ⟨rfl, rfl⟩
  · rintro e w1 ⟨rfl, rfl⟩
    go_wp2_with fail
    go_end0
    exact ⟨rfl, rfl⟩
set_option maxHeartbeats 1000000 in
theorem stT_any {w : World} {m g base cap : Nat} {l : List Int} (hm : m + 1 ≤ 12) (hl : l.length = m + 1) (hown : w.ownsRow base 51 2 (.slice (some ⟨g, 0, none⟩) (m + 1) cap) (m + 1) (ite (its l))) :
    Calls Try.prog 53 #[.slice (some ⟨g, 0, none⟩) (m + 1 : Nat) cap, .func (.func 54) #[] #[]] w fun e w' => e = .returned (.tuple #[]) ∧ FRow w' (some ⟨g, 0, none⟩) (gfL l) ∧ w.grownBy w' (some g) := by
  have hgl : g < w.heap.size := (hown.lt g rfl).2
  have hsort : Calls Try.prog 68 #[.slice (some ⟨g, 0, none⟩) (m + 1 : Nat) cap, .int .i64 (0 : Nat), .int .i64 (m + 1 : Nat), .func (.func 54) #[] #[]] w fun e w' => e = .returned (.tuple #[]) ∧ FRow w' (some ⟨g, 0, none⟩) (gfL l) ∧ w.grownBy w' (some g) := by
    have h := Try.isortK 2 (fun w => by rfl) (fun w => by rfl) (encT l m) (fun _ => rfl) (fun x v hv => by
        simp only [encT, List.mem_cons, List.not_mem_nil, or_false] at hv
        rcases hv with rfl | rfl <;> rfl) (fun x y => cmpT (Rk.val l y.val) (Rk.val l x.val)) 54 #[] g 0 cap 0 (m + 1) (finsT m).toArray w (enters_of Try.func54 (by kernel_rfl) rfl)
      (cmpT_lays l m g 0 _ w) (holdsT hl hown) hgl (Nat.zero_le _) (by simp [finsT]) (by simp [finsT]; omega)
    rw [show (finsT m).toArray.size = m + 1 by simp [finsT]] at h
    refine h.mono ?_
    rintro e w' ⟨he, q, os, rfl⟩
    obtain ⟨D, hD, hDv⟩ := Rk.sorted l m (finsT m).toArray (by simpa using finsT_vals m) hl
    have hn : D.length = m + 1 := by have := congrArg List.length hDv; rw [Rk.rank_len, hl] at this; simpa [Rk.vals] using this
    refine ⟨he, ?_, sortK_grown hgl⟩
    rw [ltOfT_eq, hD]
    exact rowT hl hDv (Nat.lt_of_lt_of_le hgl (size_sortWorldK_c _ _ _ _ _ _ _ _)) (holdsK_sortWorldK_c _ _ _ _ _ (finsT m).toArray D.toArray _ _ (holdsT hl hown) hgl (by simp [hn, finsT]))
  have HS := hide hsort
  have h20 : ¬ (20 : Int) ≤ ((m + 1 : Nat) : Int) := by omega
  have h21 : ¬ (20 : Int) < ((m + 1 : Nat) : Int) := by omega
  clear hsort hown
  generalize m + 1 = n at HS h20 h21 ⊢
  go_enter Try.func53, Try.ntmps53
  go_wp2_with fail
  refine (show Calls Try.prog 62 #[.slice (some ⟨g, 0, none⟩) n cap, .int .i64 n, .func (.func 54) #[] #[]] w fun e w' => e = .returned (.tuple #[]) ∧ FRow w' (some ⟨g, 0, none⟩) (gfL l) ∧ w.grownBy w' (some g) from ?_).mono ?_
  · go_enter Try.func62, Try.ntmps62
    go_wp2_with fail
    go_loop [7, 8] (fun s t => s = .int .i64 0 ∧ t = .int .i64 20) (fun _ _ => 0)
    case atStart => exact ⟨rfl, rfl⟩
    case round =>
      obtain ⟨rfl, rfl⟩ := hrel
      go_wp2_with fail
      refine HS.out.mono ?_
      rintro e w1 ⟨rfl, h1, h2⟩
      go_wp2_with fail
      go_loop [6, 7, 8, 9] (fun s _ _ _ => s = .int .i64 20) (fun _ _ _ _ => 0)
      case atStart => rfl
      case round =>
        subst hrel
        go_wp2_with fail
        go_end0
        exact ⟨rfl, h1, h2⟩
  · rintro e w1 ⟨rfl, h1, h2⟩
    go_wp2_with fail
    go_end0
    exact ⟨rfl, h1, h2⟩
set_option maxHeartbeats 1000000 in
theorem gf_any {a : Option Addr} {n c : Nat} {l : List Int} {w : World} (hx : l.length = n) (hn : n ≤ 12) (ha : ARow w a l) :
    Calls Try.prog 37 #[.slice a n c] w fun e w' => ∃ a' c', e = .returned (.slice a' n c') ∧ n ≤ c' ∧ FRow w' a' (gfL l) ∧ Below w.heap.size w w' := by
  have HIO := hide (io_any (c := c) hx (by omega) ha)
  have HX := hide hx
  have HST : Hid (∀ (w1 : World) (g cap : Nat), w1.ownsRow w.heap.size 51 2 (.slice (some ⟨g, 0, none⟩) n cap) n (ite (its l)) → 0 < n → Calls Try.prog 53 #[.slice (some ⟨g, 0, none⟩) n cap, .func (.func 54) #[] #[]] w1 fun e w' => e = .returned (.tuple #[]) ∧ FRow w' (some ⟨g, 0, none⟩) (gfL l) ∧ w1.grownBy w' (some g)) := hide fun w1 g cap h h0 => by
    obtain ⟨m, rfl⟩ : ∃ m, n = m + 1 := ⟨n - 1, by omega⟩
    exact stT_any hn hx h
  clear hx ha
  go_enter Try.func37, Try.ntmps37
  go_wp2_with fail
  refine HIO.out.mono ?_
  rintro e w1 ⟨v, rfl, own, hb⟩
  have HO := hide own
  have HB := hide hb
  clear HIO hb
  by_cases h0 : n = 0
  · obtain ⟨a', c', rfl⟩ := own_form2 own
    have HL : Hid (gfL l = []) := hide (List.length_eq_zero_iff.1 (by rw [gfL_len, HX.out, h0]))
    have HZ : Hid (Calls Try.prog 53 #[.slice a' n c', .func (.func 54) #[] #[]] w1 fun e w' => e = .returned (.tuple #[]) ∧ w' = w1) := hide (by rw [h0]; exact stT_zero)
    have HCP : Hid (n ≤ c') := hide (by omega)
    clear own h0
    go_wp2_with fail
    refine HZ.out.mono ?_
    rintro e w2 ⟨rfl, hw2⟩
    obtain rfl : w1 = w2 := hw2.symm
    go_wp2_with fail
    go_ret
    exact ⟨a', c', rfl, HCP.out, Or.inl HL.out, HB.out⟩
  · obtain ⟨g, cap, rfl, hg, _⟩ := own.form (by omega)
    have HS := hide (HST.out w1 g cap HO.out (by omega))
    have HZ := HB.out.size
    have HCP : Hid (n ≤ cap) := hide (own_cap2 own)
    clear own
    go_wp2_with fail
    refine HS.out.mono ?_
    rintro e w2 ⟨rfl, h1, h2⟩
    have HB2 : Below w.heap.size w w2 := HB.out.trans ⟨h2.os, h2.tape, h2.output, h2.size, fun b hb => h2.block b (by omega) (by simp; omega)⟩
    go_wp2_with fail
    go_ret
    exact ⟨some ⟨g, 0, none⟩, cap, rfl, HCP.out, h1, HB2⟩
end Go.Proofs.Ytoalcmfpbjmapaa
