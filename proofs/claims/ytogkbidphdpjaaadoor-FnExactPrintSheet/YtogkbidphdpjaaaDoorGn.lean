/-
  What isName of the program and l3Name of the model answer: one to eight letters.
-/
import Derived.Test.YtogkbidphdpjaaaDoorPa
namespace Go.Proofs.YtogkbidphdpjaaaDoor
open Go.RowKit

/-- The byte at a place, as a number. -/
def byteI (s : ByteArray) (i : Nat) : Int := ((s.data[i]?.getD 0).toNat : Int)
def letB (b : Int) : Bool := decide (97 ≤ b) && decide (b ≤ 122)
/-- One to eight letters a to z. -/
def nameB (s : ByteArray) : Bool := Pf.inB (s.size : Int) 1 8 && (List.range s.size).all fun i => letB (byteI s i)
theorem nameB_at {s : ByteArray} (h : nameB s = true) {i : Nat} (hi : i < s.size) : letB (byteI s i) = true := by
  simp only [nameB, Bool.and_eq_true] at h
  exact List.all_eq_true.1 h.2 i (by simpa using hi)
theorem nameB_of {s : ByteArray} (h1 : Pf.inB (s.size : Int) 1 8 = true) (h : ∀ i, i < s.size → letB (byteI s i) = true) : nameB s = true := by
  simp only [nameB, Bool.and_eq_true]
  exact ⟨h1, List.all_eq_true.2 fun i hi => h i (by simpa using hi)⟩
theorem nameB_len {s : ByteArray} (h : Pf.inB (s.size : Int) 1 8 = false) : nameB s = false := by simp [nameB, h]
theorem nameB_not {s : ByteArray} {i : Nat} (hi : i < s.size) (h : letB (byteI s i) = false) : nameB s = false := by
  cases e : nameB s
  · rfl
  · rw [nameB_at e hi] at h; cases h
theorem byte_get {s : ByteArray} {i : Nat} (hi : i < s.size) : ((s[i]'hi).toNat : Int) = byteI s i := by
  unfold byteI
  rw [Array.getElem?_eq_getElem (show i < s.data.size from hi)]
  rfl

theorem ix_run {s : ByteArray} {k : Nat} (hk : k < s.size) (W : World) : (Instr.index 9 (.string s) (.int .i64 (k : Int))).run Tryd.prog W = .ok (.int .u8 (byteI s k)) W := by
  rw [run_index_string W 9 s .i64 (k : Int) Tryd.underlying9, dif_pos ⟨by omega, by omega⟩]
  congr 2
  exact byte_get hk

set_option maxHeartbeats 1000000 in
theorem isName_any (s : ByteArray) (w : World) (hs : s.size ≤ 4000000000000) :
    Calls Tryd.prog 51 #[.string s] w fun e w' => e = .returned (.bool (nameB s)) ∧ w' = w := by
  cases hl : Pf.inB (s.size : Int) 1 8
  · have HN := hide (nameB_len hl)
    go_enter Tryd.func51, Tryd.ntmps51
    go_wp2_with ((go_at_call 52; refine (between_eq hl).mono ?_; rintro e w1 ⟨rfl, rfl⟩))
    go_ret
    exact ⟨ret_bool HN.out.symm, rfl⟩
  · have HL := hide hl
    go_enter Tryd.func51, Tryd.ntmps51
    go_wp2_with ((go_at_call 52; refine (between_eq hl).mono ?_; rintro e w1 ⟨rfl, hw1⟩; subst hw1))
    go_loop [2, 3, 10] (fun s2 _ t => ∃ k : Nat, s2 = .bool false ∧ t = .int .i64 k ∧ k ≤ s.size ∧ Hid (∀ i, i < k → letB (byteI s i) = true)) (fun _ _ t => s.size - (intOf t).toNat)
    case atStart => exact ⟨0, rfl, rfl, Nat.zero_le _, hide fun i hi => absurd hi (Nat.not_lt_zero _)⟩
    case round =>
      obtain ⟨k, rfl, rfl, hk, HA⟩ := hrel
      by_cases hlt : k < s.size
      · have i0 : (0 : Int) ≤ (k : Int) := by omega
        have i1 : (k : Int) < (s.size : Int) := by omega
        have hix := ix_run hlt
        generalize hx : byteI s k = x at hix
        cases hb : letB x
        · have HN := hide (nameB_not hlt (by rw [hx]; exact hb))
          clear hx
          by_cases h97 : x < 97
          · go_wp2_with fail
            go_ret
            exact ⟨ret_bool HN.out.symm, rfl⟩
          · have h122 : 122 < x := by simp [letB] at hb; omega
            go_wp2_with fail
            go_ret
            exact ⟨ret_bool HN.out.symm, rfl⟩
        · have HY : Hid (∀ i, i < k + 1 → letB (byteI s i) = true) := hide fun i hi => by
            by_cases e : i = k
            · subst e; rw [hx]; exact hb
            · exact HA.out i (by omega)
          have hb' : 97 ≤ x ∧ x ≤ 122 := by simpa [letB] using hb
          obtain ⟨g1, g2⟩ := hb'
          have h97 : ¬ x < 97 := by omega
          have h122 : ¬ 122 < x := by omega
          clear hx hb
          go_wp2_with fail
          go_round
          case rel => exact ⟨k + 1, rfl, by go_num, by omega, HY⟩
          case measure => simp only [intOf]; omega
      · have hke : k = s.size := by omega
        subst hke
        have HY := hide (nameB_of HL.out HA.out)
        go_wp2_with fail
        go_ret
        exact ⟨ret_bool HY.out.symm, rfl⟩

set_option maxHeartbeats 1000000 in
theorem l3Name_any (s : ByteArray) (w : World) (hs : s.size ≤ 4000000000000) :
    Calls Tryd.prog 43 #[.string s] w fun e w' => e = .returned (.bool (nameB s)) ∧ w' = w := by
  go_enter Tryd.func43, Tryd.ntmps43
  go_wp2_with fail
  go_loop [2, 3] (fun s2 t => ∃ k : Nat, s2 = .bool false ∧ t = .int .i64 k ∧ k ≤ s.size ∧ Hid (∀ i, i < k → letB (byteI s i) = true)) (fun _ t => s.size - (intOf t).toNat)
  case atStart => exact ⟨0, rfl, rfl, Nat.zero_le _, hide fun i hi => absurd hi (Nat.not_lt_zero _)⟩
  case round =>
    obtain ⟨k, rfl, rfl, hk, HA⟩ := hrel
    by_cases hlt : k < s.size
    · have i0 : (0 : Int) ≤ (k : Int) := by omega
      have i1 : (k : Int) < (s.size : Int) := by omega
      have hix := ix_run hlt
      generalize hx : byteI s k = x at hix
      cases hb : letB x
      · have HN := hide (nameB_not hlt (by rw [hx]; exact hb))
        clear hx
        by_cases h97 : x < 97
        · go_wp2_with fail
          go_ret
          exact ⟨ret_bool HN.out.symm, rfl⟩
        · have h122 : 122 < x := by simp [letB] at hb; omega
          go_wp2_with fail
          go_ret
          exact ⟨ret_bool HN.out.symm, rfl⟩
      · have HY : Hid (∀ i, i < k + 1 → letB (byteI s i) = true) := hide fun i hi => by
          by_cases e : i = k
          · subst e; rw [hx]; exact hb
          · exact HA.out i (by omega)
        have hb' : 97 ≤ x ∧ x ≤ 122 := by simpa [letB] using hb
        obtain ⟨g1, g2⟩ := hb'
        have h97 : ¬ x < 97 := by omega
        have h122 : ¬ 122 < x := by omega
        clear hx hb
        go_wp2_with fail
        go_round
        case rel => exact ⟨k + 1, rfl, by go_num, by omega, HY⟩
        case measure => simp only [intOf]; omega
    · have hke : k = s.size := by omega
      subst hke
      cases hl : Pf.inB (s.size : Int) 1 8
      · have HN := hide (nameB_len hl)
        go_wp2_with ((go_at_call 33; refine (in_eq hl).mono ?_; rintro e w1 ⟨rfl, rfl⟩))
        go_ret
        exact ⟨ret_bool HN.out.symm, rfl⟩
      · have HY := hide (nameB_of hl HA.out)
        go_wp2_with ((go_at_call 33; refine (in_eq hl).mono ?_; rintro e w1 ⟨rfl, rfl⟩))
        go_ret
        exact ⟨ret_bool HY.out.symm, rfl⟩
end Go.Proofs.YtogkbidphdpjaaaDoor
