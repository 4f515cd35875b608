/-
  What GoodGoods of the program answers.
-/
import Derived.Test.YtogkbidphdpjaaaDoorGp
import Derived.Deep.RegionHeld3
namespace Go.Proofs.YtogkbidphdpjaaaDoor
open Go.RowKit

def okG (gs : List Gd) (i : Nat) : Bool := nameB (gs.getD i gd0).1 && (Pf.inB (gs.getD i gd0).2 1 100 && !hasB (gs.take i) (gs.getD i gd0).1)
def goodsB (gs : List Gd) : Bool := decide (gs.length ≤ 12) && (List.range gs.length).all fun i => okG gs i
theorem goodsB_len {gs : List Gd} (h : goodsB gs = true) : gs.length ≤ 12 := by
  simp only [goodsB, Bool.and_eq_true, decide_eq_true_eq] at h; exact h.1
theorem goodsB_at {gs : List Gd} (h : goodsB gs = true) {i : Nat} (hi : i < gs.length) : okG gs i = true := by
  simp only [goodsB, Bool.and_eq_true] at h
  exact List.all_eq_true.1 h.2 i (by simpa using hi)
theorem goodsB_of {gs : List Gd} (h1 : gs.length ≤ 12) (h : ∀ i, i < gs.length → okG gs i = true) : goodsB gs = true := by
  simp only [goodsB, Bool.and_eq_true, decide_eq_true_eq]
  exact ⟨h1, List.all_eq_true.2 fun i hi => h i (by simpa using hi)⟩
theorem goodsB_many {gs : List Gd} (h : 12 < gs.length) : goodsB gs = false := by simp [goodsB, show ¬ gs.length ≤ 12 by omega]
theorem goodsB_not {gs : List Gd} {i : Nat} (hi : i < gs.length) (h : okG gs i = false) : goodsB gs = false := by
  cases e : goodsB gs
  · rfl
  · rw [goodsB_at e hi] at h; cases h
theorem okG_n1 {gs : List Gd} {i : Nat} (h : nameB (gs.getD i gd0).1 = false) : okG gs i = false := by unfold okG; rw [h]; rfl
theorem okG_n2 {gs : List Gd} {i : Nat} (h : Pf.inB (gs.getD i gd0).2 1 100 = false) : okG gs i = false := by unfold okG; rw [h]; simp
theorem okG_n3 {gs : List Gd} {i : Nat} (h : hasB (gs.take i) (gs.getD i gd0).1 = true) : okG gs i = false := by unfold okG; rw [h]; simp
theorem okG_y {gs : List Gd} {i : Nat} (h1 : nameB (gs.getD i gd0).1 = true) (h2 : Pf.inB (gs.getD i gd0).2 1 100 = true) (h3 : hasB (gs.take i) (gs.getD i gd0).1 = false) : okG gs i = true := by unfold okG; rw [h1, h2, h3]; rfl
/-- No name is too long to be gone through. -/
def Short (gs : List Gd) : Prop := ∀ i, (gs.getD i gd0).1.size ≤ 1048576

/-- What stays while a good is looked at: its two fields. -/
theorem kG_call {w w1 w2 : World} {V : Nat} {v0 v1 : Value} (s : w1.cell? ⟨V, 0, none⟩ = some v0 ∧ w1.cell? ⟨V, 1, none⟩ = some v1 ∧ Below w.heap.size w w1 ∧ w.heap.size ≤ V ∧ V < w1.heap.size) (h : Below w1.heap.size w1 w2) :
    w2.cell? ⟨V, 0, none⟩ = some v0 ∧ w2.cell? ⟨V, 1, none⟩ = some v1 ∧ Below w.heap.size w w2 ∧ w.heap.size ≤ V ∧ V < w2.heap.size := by
  obtain ⟨s0, s1, s2, s3, s4⟩ := s
  obtain ⟨hc, _⟩ := bcell h
  exact ⟨(hc _ _ s4).trans s0, (hc _ _ s4).trans s1, s2.trans (h.mono (by omega)), s3, Nat.lt_of_lt_of_le s4 h.size⟩
theorem kG_same {w w1 w2 : World} {V : Nat} {v0 v1 : Value} (s : w1.cell? ⟨V, 0, none⟩ = some v0 ∧ w1.cell? ⟨V, 1, none⟩ = some v1 ∧ Below w.heap.size w w1 ∧ w.heap.size ≤ V ∧ V < w1.heap.size) (h : w2 = w1) :
    w2.cell? ⟨V, 0, none⟩ = some v0 ∧ w2.cell? ⟨V, 1, none⟩ = some v1 ∧ Below w.heap.size w w2 ∧ w.heap.size ≤ V ∧ V < w2.heap.size := h ▸ s

theorem isName_eq {s : ByteArray} {w : World} {b : Bool} (hs : s.size ≤ 1048576) (h : Hid (nameB s = b)) :
    Calls Tryd.prog 51 #[.string s] w fun e w' => e = .returned (.bool b) ∧ w' = w := h.out ▸ isName_any s w (by omega)
theorem hasName_eq {a : Option Addr} {k c : Nat} {gs : List Gd} {t : ByteArray} {w w1 : World} {b : Bool} (H : Hid (GRow w a gs)) (hk : k ≤ gs.length) (hk' : k ≤ 12) (hb : Hid (hasB (gs.take k) t = b)) (hB : Below w.heap.size w w1) :
    Calls Tryd.prog 53 #[.slice a k c, .string t] w1 fun e w' => e = .returned (.bool b) ∧ Below w1.heap.size w1 w' :=
  hb.out ▸ hasName_any (by simp; omega) (by omega) ((H.out.below hB).take k)
set_option maxHeartbeats 1000000 in
theorem gg_many {a : Option Addr} {n c : Nat} {w : World} (h : 12 < n) :
    Calls Tryd.prog 38 #[.slice a n c] w fun e w' => e = .returned (.bool false) ∧ Below w.heap.size w w' := by
  have h1 : (12 : Int) < n := by omega
  go_enter Tryd.func38, Tryd.ntmps38
  go_wp2_with fail
  go_ret
  exact ⟨rfl, Below.refl _ _⟩
set_option maxHeartbeats 8000000 in
set_option maxRecDepth 100000 in
theorem gg_few {a : Option Addr} {n c : Nat} {gs : List Gd} {w : World} (hn : gs.length = n) (hn' : n ≤ 12) (hc : n ≤ c) (hs : Short gs) (h : GRow w a gs) :
    Calls Tryd.prog 38 #[.slice a n c] w fun e w' => e = .returned (.bool (goodsB gs)) ∧ Below w.heap.size w w' := by
  have h1 : ¬ (12 : Int) < n := by omega
  have H := hide h
  have HN := hide hn
  have HSh := hide hs
  clear h hn hs
  go_enter Tryd.func38, Tryd.ntmps38
  go_wp2_with fail
  go_loopw [2, 3, 4, 10] (fun s2 _ _ s wr => ∃ k : Nat, s2 = .bool false ∧ s = .int .i64 k ∧ k ≤ n ∧ Hid (∀ i, i < k → okG gs i = true) ∧ Hid (Below w.heap.size w wr)) (fun _ _ _ s _ => n - (intOf s).toNat)
  case atStart => exact ⟨0, rfl, rfl, Nat.zero_le _, hide fun i hi => absurd hi (Nat.not_lt_zero _), hide (Below.refl _ _)⟩
  case round =>
    obtain ⟨k, rfl, rfl, hk, HA, HBl⟩ := hrel
    by_cases hlt : k < n
    · obtain ⟨b, off, rfl, hb, r1, r2⟩ := (H.out.below HBl.out).at (i := k) (by rw [HN.out]; exact hlt)
      have i0 : (0 : Int) ≤ (k : Int) := by omega
      have i1 : (k : Int) < (n : Int) := by omega
      have i2 : (k : Int) ≤ (n : Int) := by omega
      have i3 : (k : Int) ≤ (c : Int) := by omega
      have hsz := HSh.out k
      have hklen : k < gs.length := by rw [HN.out]; exact hlt
      have HOK : Hid (okG gs k = true → ∀ i, i < k + 1 → okG gs i = true) := hide fun he i hi => by
        by_cases e : i = k
        · subst e; exact he
        · exact HA.out i (by omega)
      have HN1 := hide (fun (h : okG gs k = false) => goodsB_not hklen h)
      have O1 := hide (@okG_n1 gs k)
      have O2 := hide (@okG_n2 gs k)
      have O3 := hide (@okG_n3 gs k)
      have O4 := hide (@okG_y gs k)
      generalize (gs.getD k gd0).1 = x at *
      generalize (gs.getD k gd0).2 = z at *
      have hBz := HBl.out.size
      have bn := (Below.refl wr.heap.size wr).alloc (Nat.le_refl _) (.cells #[.string x, .int .i64 z] 47)
      have HBn := hide (HBl.out.trans (bn.mono hBz))
      clear bn hklen
      cases hnm : nameB x
      · have HF := hide (HN1.out (O1.out hnm))
        have HNM := hide hnm
        clear hnm
        go_wp2_with fail
        go_quiet ((go_at_call 51; exact Calls.quiet_of_same (isName_eq hsz HNM)))
        go_wp2_with fail
        go_ret
        exact ⟨ret_bool HF.out.symm, below_drewN HBn.out _⟩
      · have HNM := hide hnm
        cases hin : Pf.inB z 1 100
        · have HF := hide (HN1.out (O2.out hin))
          clear hnm
          go_wp2_with fail
          go_quiet (first
            | (go_at_call 51; exact Calls.quiet_of_same (isName_eq hsz HNM))
            | (go_at_call 52; exact Calls.quiet_of_same (between_eq hin)))
          go_wp2_with fail
          go_ret
          exact ⟨ret_bool HF.out.symm, below_drewN HBn.out _⟩
        · cases hhs : hasB (gs.take k) x
          · have HF := hide (HOK.out (O4.out hnm hin hhs))
            have HHS := hide hhs
            clear hnm hhs
            go_wp2_with fail
            go_region_held3 (fun w' => w'.cell? ⟨wr.heap.size, 0, none⟩ = some (.string x) ∧ w'.cell? ⟨wr.heap.size, 1, none⟩ = some (.int .i64 z) ∧ Below w.heap.size w w' ∧ w.heap.size ≤ wr.heap.size ∧ wr.heap.size < w'.heap.size)
              (first | exact ⟨by simp [go_sem], by simp [go_sem], HBn.out.drew, hBz, by simp⟩ | assumption | exact kG_call ‹_› (by assumption))
              (first
              | (go_at_call 51; refine (isName_eq hsz HNM).mono ?_; rintro e w1 ⟨rfl, rfl⟩)
              | (go_at_call 52; refine (between_eq hin).mono ?_; rintro e w1 ⟨rfl, rfl⟩)
              | (go_at_call 53; refine (hasName_eq H (by rw [HN.out]; omega) (by omega) HHS (‹_ ∧ _ ∧ _ ∧ _ ∧ _›).2.2.1).mono ?_; rintro e w1 ⟨rfl, hb1⟩))
            obtain ⟨_, _, hBe, _, _⟩ := ‹_ ∧ _ ∧ _ ∧ _ ∧ _›
            go_wp2_with fail
            go_roundw
            case rel => exact ⟨k + 1, rfl, by go_num, by omega, HF, hide hBe⟩
            case measure => simp only [intOf]; omega
          · have HF := hide (HN1.out (O3.out hhs))
            have HHS := hide hhs
            clear hnm hhs
            go_wp2_with fail
            go_region_held3 (fun w' => w'.cell? ⟨wr.heap.size, 0, none⟩ = some (.string x) ∧ w'.cell? ⟨wr.heap.size, 1, none⟩ = some (.int .i64 z) ∧ Below w.heap.size w w' ∧ w.heap.size ≤ wr.heap.size ∧ wr.heap.size < w'.heap.size)
              (first | exact ⟨by simp [go_sem], by simp [go_sem], HBn.out.drew, hBz, by simp⟩ | assumption | exact kG_call ‹_› (by assumption))
              (first
              | (go_at_call 51; refine (isName_eq hsz HNM).mono ?_; rintro e w1 ⟨rfl, rfl⟩)
              | (go_at_call 52; refine (between_eq hin).mono ?_; rintro e w1 ⟨rfl, rfl⟩)
              | (go_at_call 53; refine (hasName_eq H (by rw [HN.out]; omega) (by omega) HHS (‹_ ∧ _ ∧ _ ∧ _ ∧ _›).2.2.1).mono ?_; rintro e w1 ⟨rfl, hb1⟩))
            obtain ⟨_, _, hBe, _, _⟩ := ‹_ ∧ _ ∧ _ ∧ _ ∧ _›
            go_wp2_with fail
            go_ret
            exact ⟨ret_bool HF.out.symm, hBe⟩
    · have hke : k = n := by omega
      subst hke
      have HY := hide (goodsB_of (by rw [HN.out]; exact hn') (fun i hi => HA.out i (by rw [← HN.out]; exact hi)))
      go_wp2_with fail
      go_ret
      exact ⟨ret_bool HY.out.symm, HBl.out⟩
theorem gg_any {a : Option Addr} {n c : Nat} {gs : List Gd} {w : World} (hn : gs.length = n) (hc : n ≤ c) (hs : Short gs) (h : GRow w a gs) :
    Calls Tryd.prog 38 #[.slice a n c] w fun e w' => e = .returned (.bool (goodsB gs)) ∧ Below w.heap.size w w' := by
  by_cases h12 : n ≤ 12
  · exact gg_few hn h12 hc hs h
  · rw [goodsB_many (by omega)]; exact gg_many (by omega)
end Go.Proofs.YtogkbidphdpjaaaDoor
