/-
  Sheets of the laws: marks, and that they are held.
-/
import Derived.Test.YtogkbidphdpjaaaSc15
import Derived.Test.YtogkbidphdpjaaaNm
import Derived.Test.YtogkbidphdpjaaaNq
namespace Go.Proofs.Ytogkbidphdpjaaa
open Go.RowKit

/-- Goods' and lines' cells, in a row. -/
def pq {α : Type} (f g : α → Value) (xs : List α) : List Value := xs.flatMap fun x => [f x, g x]
theorem pq_snoc {α : Type} (f g : α → Value) (xs : List α) (x : α) : pq f g (xs ++ [x]) = pq f g xs ++ [f x, g x] := by simp [pq]
theorem pq_len {α : Type} (f g : α → Value) : ∀ xs : List α, (pq f g xs).length = xs.length * 2
  | [] => rfl
  | x :: r => by
    have := pq_len f g r
    simp only [pq, List.flatMap_cons, List.length_append, List.length_cons, List.length_nil] at this ⊢
    omega
theorem pq_get {α : Type} (f g : α → Value) (d : α) : ∀ (xs : List α) (i : Nat), i < xs.length → (pq f g xs)[i * 2]? = some (f (xs.getD i d)) ∧ (pq f g xs)[i * 2 + 1]? = some (g (xs.getD i d))
  | [], i, h => by simp at h
  | x :: r, 0, _ => by simp [pq]
  | x :: r, i + 1, h => by
    have := pq_get f g d r i (by simpa using h)
    rw [show (i + 1) * 2 = i * 2 + 2 by omega]
    simpa [pq] using this
def gV (p : Gd) : Value := .string p.1
def gN (p : Gd) : Value := .int .i64 p.2
def lV (p : Int × Int) : Value := .int .i64 p.1
def lN (p : Int × Int) : Value := .int .i64 p.2
abbrev gce (gs : List Gd) : List Value := pq gV gN gs
abbrev lce (ls : List (Int × Int)) : List Value := pq lV lN ls
theorem own_gd {w : World} {base e n : Nat} {v : Value} {gs : List Gd} (hn : gs.length = n) (h : w.ownsRow base e 2 v n (gce gs)) : ∃ a c, v = .slice a n c ∧ n ≤ c ∧ GRow w a gs := by
  rcases h.2 with ⟨rfl, h0⟩ | ⟨G, cap, cur, rfl, hb, hg, hcap, _⟩
  · subst h0; exact ⟨none, 0, rfl, Nat.le_refl _, Or.inl (List.length_eq_zero_iff.1 hn)⟩
  · refine ⟨_, _, rfl, hcap, Or.inr ⟨G, 0, rfl, (Array.getElem?_eq_some_iff.1 hg).1, fun i hi => ?_⟩⟩
    obtain ⟨p0, p1⟩ := pq_get gV gN gd0 gs i hi
    rw [Nat.zero_add, h.cellAt _ (by omega), h.cellAt _ (by omega)]
    exact ⟨p0, p1⟩
theorem own_ln {w : World} {base e n : Nat} {v : Value} {ls : List (Int × Int)} (hn : ls.length = n) (h : w.ownsRow base e 2 v n (lce ls)) : ∃ a c, v = .slice a n c ∧ n ≤ c ∧ LRow w a ls := by
  rcases h.2 with ⟨rfl, h0⟩ | ⟨G, cap, cur, rfl, hb, hg, hcap, _⟩
  · subst h0; exact ⟨none, 0, rfl, Nat.le_refl _, Or.inl (List.length_eq_zero_iff.1 hn)⟩
  · refine ⟨_, _, rfl, hcap, Or.inr ⟨G, 0, rfl, (Array.getElem?_eq_some_iff.1 hg).1, fun i hi => ?_⟩⟩
    obtain ⟨p0, p1⟩ := pq_get lV lN (0, 0) ls i hi
    rw [Nat.zero_add, h.cellAt _ (by omega), h.cellAt _ (by omega)]
    exact ⟨p0, p1⟩
/-- The text of a mark. -/
def mkD : Nat → Int → ByteArray → ByteArray
  | 0, _, u => u
  | f + 1, m, u => if m ≤ 0 then u else mkD f (m / 10) (⟨#[dgtM (m % 10)]⟩ ++ u)
def mkT (k : Int) : ByteArray := ⟨#[109]⟩ ++ mkD k.toNat k ⟨#[]⟩
theorem mkD_end (f : Nat) (u : ByteArray) : mkD f 0 u = u := by cases f <;> simp [mkD]
set_option maxHeartbeats 1000000 in
theorem mt_any (k : Int) (w : World) (h0 : 0 < k) (h1 : k ≤ 1000000000) :
    Calls Try.prog 58 #[.int .i64 k] w fun e w' => e = .returned (.string (mkT k)) ∧ Below w.heap.size w w' := by
  have hk : ¬ k ≤ 0 := by omega
  go_enter Try.func58, Try.ntmps58
  go_wp2_with fail
  go_loopw [0, 3] (fun s t wr => ∃ (m : Int) (u : ByteArray), s = .int .i64 m ∧ t = .string u ∧ 0 ≤ m ∧ m ≤ k ∧ Hid ((u.size : Int) ≤ k - m) ∧ Hid (∃ f : Nat, m ≤ f ∧ mkD f m u = mkD k.toNat k ⟨#[]⟩) ∧ Below w.heap.size w wr ∧ w.heap.size ≤ wr.heap.size) (fun s _ _ => (intOf s).toNat)
  case atStart => exact ⟨k, _, rfl, rfl, by omega, by omega, hide (by show (0 : Int) ≤ k - k; omega), hide ⟨k.toNat, by omega, rfl⟩, Below.refl _ _, Nat.le_refl _⟩
  case round =>
    obtain ⟨m, u, rfl, rfl, m0, m1, HU, HD, hB, hz⟩ := hrel
    have hU := HU.out
    by_cases hlt : 0 < m
    · have kc := convM (m % 10) (by omega) (by omega)
      have e1 : m.tdiv 10 = m / 10 := Int.tdiv_eq_ediv_of_nonneg (by omega)
      have e1' : IntKind.i64.wrap (m / 10) = m / 10 := by rw [IntKind.wrap_i64]; omega
      have e1'' : wrap64 (m / 10) = m / 10 := wrap_id' _ (by omega) (by omega)
      have e2 : m.tmod 10 = m % 10 := Int.tmod_eq_emod_of_nonneg (by omega)
      have e3 : IntKind.i64.wrap (48 + m % 10) = 48 + m % 10 := by rw [IntKind.wrap_i64]; omega
      have e3' : wrap64 (48 + m % 10) = 48 + m % 10 := wrap_id' _ (by omega) (by omega)
      have e4 : IntKind.u8.wrap (48 + m % 10) = 48 + m % 10 := by simp [IntKind.wrap, IntKind.bits, IntKind.signed]; omega
      have hm0 : 0 ≤ m % 10 := by omega
      have hm1 : m % 10 < 10 := by omega
      have hlen : (⟨#[dgtM (m % 10)]⟩ : ByteArray).size + u.size ≤ 9223372036854775807 := by
        show 1 + u.size ≤ _
        omega
      have sa : ∀ w, (Op.stringOp .add ⟨#[dgtM (m % 10)]⟩ u).run Try.prog w = .ok (.string (⟨#[dgtM (m % 10)]⟩ ++ u)) w := fun w => run_string_add_sum (P := Try.prog) (w := w) _ _ hlen
      have HS := hide (size_app1 (dgtM (m % 10)) u)
      have HD2 : Hid (∃ f : Nat, m / 10 ≤ f ∧ mkD f (m / 10) (⟨#[dgtM (m % 10)]⟩ ++ u) = mkD k.toNat k ⟨#[]⟩) := hide (by
        obtain ⟨f, hf, he⟩ := HD.out
        obtain ⟨g, rfl⟩ : ∃ g, f = g + 1 := ⟨f - 1, by omega⟩
        refine ⟨g, by omega, ?_⟩
        rw [← he, mkD, if_neg (by omega)])
      clear hlen hU
      go_wp2_with fail
      have hs := HS.out
      have hu := HU.out
      refine ⟨⟨m / 10, _, rfl, rfl, by omega, by omega, hide (by rw [hs]; omega), HD2, hB.alloc hz _, by simp; omega⟩, by simp only [intOf]; omega⟩
    · have hme : m = 0 := by omega
      subst hme
      have HT : Hid (⟨#[109]⟩ ++ u = mkT k) := hide (by
        obtain ⟨f, hf, he⟩ := HD.out
        rw [mkT, ← he, mkD_end])
      have hlen : (⟨#[109]⟩ : ByteArray).size + u.size ≤ 9223372036854775807 := by
        show 1 + u.size ≤ _
        omega
      have sa : ∀ w, (Op.stringOp .add ⟨#[109]⟩ u).run Try.prog w = .ok (.string (⟨#[109]⟩ ++ u)) w := fun w => run_string_add_sum (P := Try.prog) (w := w) _ _ hlen
      go_wp2_with fail
      go_ret
      exact ⟨by rw [← HT.out]; rfl, hB⟩
/-- A list of pairs that can be written, or none. -/
def LooseV (w : World) (v : Value) (n : Nat) : Prop := (v = .slice none 0 0 ∧ n = 0) ∨ ∃ g cap, v = .slice (some ⟨g, 0, none⟩) n cap ∧ g < w.heap.size ∧ Loose w g (n * 2)
theorem LooseV.of_own {w : World} {base e n : Nat} {v : Value} {xs : List Value} (h : w.ownsRow base e 2 v n xs) : LooseV w v n := by
  rcases h.2 with ⟨rfl, h0⟩ | ⟨G, cap, cur, rfl, hb, hg, hcap, _⟩
  · exact Or.inl ⟨rfl, h0⟩
  · refine Or.inr ⟨G, cap, rfl, (Array.getElem?_eq_some_iff.1 hg).1, fun j hj => ⟨?_, h.frozenAt j⟩⟩
    rw [h.cellAt j (by omega), List.getElem?_eq_getElem (by have := h.1; omega)]
    rfl
theorem LooseV.keep {w w' : World} {v : Value} {n : Nat} (h : LooseV w v n) (hs : w.heap.size ≤ w'.heap.size) (hb : ∀ g, v.ownBlock = some g → g < w.heap.size → w'.heap[g]? = w.heap[g]?) : LooseV w' v n := by
  rcases h with h | ⟨g, cap, rfl, hl, hc⟩
  · exact Or.inl h
  · exact Or.inr ⟨g, cap, rfl, Nat.lt_of_lt_of_le hl hs, loose_low hc (hb g rfl hl)⟩
/-- A list of goods that holds the marks from k on. -/
def HeldGV (w : World) (v : Value) (n : Nat) (k : Int) : Prop :=
  (v = .slice none 0 0 ∧ n = 0) ∨ ∃ g cap, v = .slice (some ⟨g, 0, none⟩) n cap ∧ g < w.heap.size ∧ ∀ j : Nat, j < n → w.cell? ⟨g, j * 2, none⟩ = some (.string (mkT (k + j * 2))) ∧ w.cell? ⟨g, j * 2 + 1, none⟩ = some (.int .i64 (k + j * 2 + 1))
theorem HeldGV.keep {w w' : World} {v : Value} {n : Nat} {k : Int} (h : HeldGV w v n k) (hs : w.heap.size ≤ w'.heap.size) (hb : ∀ g, v.ownBlock = some g → g < w.heap.size → w'.heap[g]? = w.heap[g]?) : HeldGV w' v n k := by
  rcases h with h | ⟨g, cap, rfl, hl, hc⟩
  · exact Or.inl h
  · exact Or.inr ⟨g, cap, rfl, Nat.lt_of_lt_of_le hl hs, fun j hj => ⟨(World.cell?_of_block (w := w) (a := ⟨g, j * 2, none⟩) (hb g rfl hl)).trans (hc j hj).1, (World.cell?_of_block (w := w) (a := ⟨g, j * 2 + 1, none⟩) (hb g rfl hl)).trans (hc j hj).2⟩⟩
theorem HeldGV.below {w w' : World} {v : Value} {n : Nat} {k : Int} (h : HeldGV w v n k) (hb : Below w.heap.size w w') : HeldGV w' v n k := h.keep hb.size fun _ _ hl => hb.block _ hl
/-- A list of lines that holds the marks from k on. -/
def HeldLV (w : World) (v : Value) (n : Nat) (k : Int) : Prop :=
  (v = .slice none 0 0 ∧ n = 0) ∨ ∃ g cap, v = .slice (some ⟨g, 0, none⟩) n cap ∧ g < w.heap.size ∧ ∀ j : Nat, j < n → w.cell? ⟨g, j * 2, none⟩ = some (.int .i64 (k + j * 2)) ∧ w.cell? ⟨g, j * 2 + 1, none⟩ = some (.int .i64 (k + j * 2 + 1))
theorem HeldLV.keep {w w' : World} {v : Value} {n : Nat} {k : Int} (h : HeldLV w v n k) (hs : w.heap.size ≤ w'.heap.size) (hb : ∀ g, v.ownBlock = some g → g < w.heap.size → w'.heap[g]? = w.heap[g]?) : HeldLV w' v n k := by
  rcases h with h | ⟨g, cap, rfl, hl, hc⟩
  · exact Or.inl h
  · exact Or.inr ⟨g, cap, rfl, Nat.lt_of_lt_of_le hl hs, fun j hj => ⟨(World.cell?_of_block (w := w) (a := ⟨g, j * 2, none⟩) (hb g rfl hl)).trans (hc j hj).1, (World.cell?_of_block (w := w) (a := ⟨g, j * 2 + 1, none⟩) (hb g rfl hl)).trans (hc j hj).2⟩⟩
theorem HeldLV.below {w w' : World} {v : Value} {n : Nat} {k : Int} (h : HeldLV w v n k) (hb : Below w.heap.size w w') : HeldLV w' v n k := h.keep hb.size fun _ _ hl => hb.block _ hl
theorem marks_more {w : World} {B i m : Nat} {k : Int} {u v : Value} {F G : Nat → Value} (hl : Loose w B m) (hi : i * 2 + 1 < m) (hc : ∀ j, j < i → w.cell? ⟨B, j * 2, none⟩ = some (F j) ∧ w.cell? ⟨B, j * 2 + 1, none⟩ = some (G j)) (hu : u = F i) (hv : v = G i) (_ : k = k) :
    ∀ j, j < i + 1 → ((w.setCell ⟨B, i * 2, none⟩ u).setCell ⟨B, i * 2 + 1, none⟩ v).cell? ⟨B, j * 2, none⟩ = some (F j) ∧ ((w.setCell ⟨B, i * 2, none⟩ u).setCell ⟨B, i * 2 + 1, none⟩ v).cell? ⟨B, j * 2 + 1, none⟩ = some (G j) := by
  obtain ⟨u0, u1, u2, _⟩ := putL2 (W := w) (B := B) (i := i * 2) (x := u) (y := v) (hl _ (by omega)).1 (hl _ hi).1
  intro j hj
  by_cases e : j = i
  · subst e; rw [u0, u1, hu, hv]; exact ⟨rfl, rfl⟩
  · obtain ⟨h1, h2⟩ := hc j (by omega)
    exact ⟨(u2 _ (by omega) (by omega)).trans h1, (u2 _ (by omega) (by omega)).trans h2⟩
set_option maxHeartbeats 1000000 in
theorem markL_at (B n c : Nat) (k : Int) (w : World) (hn : n ≤ 1048576) (k0 : 0 < k) (k1 : k ≤ 900000000) (hB : B < w.heap.size) (hl : Loose w B (n * 2)) :
    Calls Try.prog 40 #[.slice (some ⟨B, 0, none⟩) n c, .int .i64 k] w fun e w' => e = .returned (.int .i64 (k + n * 2)) ∧ HeldLV w' (.slice (some ⟨B, 0, none⟩) n c) n k ∧ w.grownBy w' (some B) := by
  have HL := hide hl
  clear hl
  go_enter Try.func40, Try.ntmps40
  go_wp2_with fail
  go_loopw [1, 5] (fun s t wr => ∃ (i : Nat), t = .int .i64 i ∧ s = .int .i64 (k + i * 2) ∧ i ≤ n ∧ Hid (Loose wr B (n * 2)) ∧ Hid (∀ j : Nat, j < i → wr.cell? ⟨B, j * 2, none⟩ = some (.int .i64 (k + j * 2)) ∧ wr.cell? ⟨B, j * 2 + 1, none⟩ = some (.int .i64 (k + j * 2 + 1))) ∧ w.grownBy wr (some B)) (fun _ t _ => n - (intOf t).toNat)
  case atStart => exact ⟨0, rfl, by simp, Nat.zero_le _, HL, hide fun j hj => absurd hj (Nat.not_lt_zero _), World.grownBy.refl _ _⟩
  case round =>
    obtain ⟨i, rfl, rfl, hi, HJ, HC, hg⟩ := hrel
    by_cases hlt : i < n
    · have i0 : (0 : Int) ≤ (i : Int) := by omega
      have i1 : (i : Int) < (n : Int) := by omega
      obtain ⟨q0, f0⟩ := HJ.out (i * 2) (by omega)
      obtain ⟨q1, f1⟩ := HJ.out (i * 2 + 1) (by omega)
      obtain ⟨v0, c0⟩ := Option.isSome_iff_exists.1 q0
      obtain ⟨v1, c1⟩ := Option.isSome_iff_exists.1 q1
      clear q0 q1
      go_wp2_with fail
      refine ⟨⟨i + 1, by go_num, by go_num, by omega, ?_, ?_, ?_⟩, by simp only [intOf]; omega⟩
      · exact hide (HJ.out.set.set)
      · exact hide (marks_more (k := k) (F := fun j : Nat => .int .i64 (k + j * 2)) (G := fun j : Nat => .int .i64 (k + j * 2 + 1)) HJ.out (by omega) HC.out rfl rfl rfl)
      · exact grown_set (grown_set hg)
    · have hin : i = n := by omega
      subst hin
      go_wp2_with fail
      go_ret
      exact ⟨rfl, Or.inr ⟨B, c, rfl, Nat.lt_of_lt_of_le hB hg.size, HC.out⟩, hg⟩
set_option maxHeartbeats 2000000 in
theorem markG_at (B n c : Nat) (k : Int) (w : World) (hn : n ≤ 1048576) (k0 : 0 < k) (k1 : k ≤ 900000000) (hB : B < w.heap.size) (hl : Loose w B (n * 2)) :
    Calls Try.prog 39 #[.slice (some ⟨B, 0, none⟩) n c, .int .i64 k] w fun e w' => e = .returned (.int .i64 (k + n * 2)) ∧ HeldGV w' (.slice (some ⟨B, 0, none⟩) n c) n k ∧ w.grownBy w' (some B) := by
  have HL := hide hl
  clear hl
  go_enter Try.func39, Try.ntmps39
  go_wp2_with fail
  go_loopw [1, 5] (fun s t wr => ∃ (i : Nat), t = .int .i64 i ∧ s = .int .i64 (k + i * 2) ∧ i ≤ n ∧ Hid (Loose wr B (n * 2)) ∧ Hid (∀ j : Nat, j < i → wr.cell? ⟨B, j * 2, none⟩ = some (.string (mkT (k + j * 2))) ∧ wr.cell? ⟨B, j * 2 + 1, none⟩ = some (.int .i64 (k + j * 2 + 1))) ∧ w.grownBy wr (some B)) (fun _ t _ => n - (intOf t).toNat)
  case atStart => exact ⟨0, rfl, by simp, Nat.zero_le _, HL, hide fun j hj => absurd hj (Nat.not_lt_zero _), World.grownBy.refl _ _⟩
  case round =>
    obtain ⟨i, rfl, rfl, hi, HJ, HC, hg⟩ := hrel
    by_cases hlt : i < n
    · have i0 : (0 : Int) ≤ (i : Int) := by omega
      have i1 : (i : Int) < (n : Int) := by omega
      go_wp2_with fail
      refine (mt_any (k + i * 2) _ (by omega) (by omega)).mono ?_
      rintro e w2 ⟨rfl, hb2⟩
      have HJ2 := hide (HJ.out.below hb2)
      have HC2 : Hid (∀ j : Nat, j < i → w2.cell? ⟨B, j * 2, none⟩ = some (.string (mkT (k + j * 2))) ∧ w2.cell? ⟨B, j * 2 + 1, none⟩ = some (.int .i64 (k + j * 2 + 1))) := hide fun j hj => by
        have hl : B < wr.heap.size := HJ.out.lt (by omega)
        exact ⟨(hb2.cell (p := ⟨B, j * 2, none⟩) hl).trans (HC.out j hj).1, (hb2.cell (p := ⟨B, j * 2 + 1, none⟩) hl).trans (HC.out j hj).2⟩
      have hg2 := grown_of hg hb2
      obtain ⟨q0, f0⟩ := HJ2.out (i * 2) (by omega)
      obtain ⟨q1, f1⟩ := HJ2.out (i * 2 + 1) (by omega)
      obtain ⟨v0, c0⟩ := Option.isSome_iff_exists.1 q0
      obtain ⟨v1, c1⟩ := Option.isSome_iff_exists.1 q1
      clear q0 q1 hb2 hg
      generalize hT : mkT (k + i * 2) = T
      have HT := hide hT.symm
      clear hT
      go_wp2_with fail
      refine ⟨⟨i + 1, by go_num, by go_num, by omega, ?_, ?_, ?_⟩, by simp only [intOf]; omega⟩
      · exact hide (HJ2.out.set.set)
      · exact hide (marks_more (k := k) (F := fun j : Nat => .string (mkT (k + j * 2))) (G := fun j : Nat => .int .i64 (k + j * 2 + 1)) HJ2.out (by omega) HC2.out (congrArg _ HT.out) rfl rfl)
      · exact grown_set (grown_set hg2)
    · have hin : i = n := by omega
      subst hin
      go_wp2_with fail
      go_ret
      exact ⟨rfl, Or.inr ⟨B, c, rfl, Nat.lt_of_lt_of_le hB hg.size, HC.out⟩, hg⟩
set_option maxHeartbeats 400000 in
theorem markG_zero (c : Nat) (k : Int) (w : World) :
    Calls Try.prog 39 #[.slice none 0 c, .int .i64 k] w fun e w' => e = .returned (.int .i64 k) ∧ w' = w := by
  go_enter Try.func39, Try.ntmps39
  go_wp2_with fail
  go_loop [1, 5] (fun s t => s = .int .i64 k ∧ t = .int .i64 0) (fun s t => 0)
  case atStart => exact ⟨rfl, rfl⟩
  case round =>
    obtain ⟨rfl, rfl⟩ := hrel
    go_wp2_with fail
    go_ret
    exact ⟨rfl, rfl⟩
set_option maxHeartbeats 400000 in
theorem markL_zero (c : Nat) (k : Int) (w : World) :
    Calls Try.prog 40 #[.slice none 0 c, .int .i64 k] w fun e w' => e = .returned (.int .i64 k) ∧ w' = w := by
  go_enter Try.func40, Try.ntmps40
  go_wp2_with fail
  go_loop [1, 5] (fun s t => s = .int .i64 k ∧ t = .int .i64 0) (fun s t => 0)
  case atStart => exact ⟨rfl, rfl⟩
  case round =>
    obtain ⟨rfl, rfl⟩ := hrel
    go_wp2_with fail
    go_ret
    exact ⟨rfl, rfl⟩
theorem markG_v {v : Value} {n : Nat} {k : Int} {w : World} (hn : n ≤ 1048576) (k0 : 0 < k) (k1 : k ≤ 900000000) (h : LooseV w v n) :
    Calls Try.prog 39 #[v, .int .i64 k] w fun e w' => e = .returned (.int .i64 (k + n * 2)) ∧ HeldGV w' v n k ∧ w.grownBy w' v.ownBlock := by
  rcases h with ⟨rfl, rfl⟩ | ⟨g, cap, rfl, hl, hL⟩
  · refine (markG_zero _ _ _).mono ?_
    rintro e w' ⟨rfl, rfl⟩
    exact ⟨by simp, Or.inl ⟨rfl, rfl⟩, World.grownBy.refl _ _⟩
  · exact markG_at g n cap k w hn k0 k1 hl hL
theorem markL_v {v : Value} {n : Nat} {k : Int} {w : World} (hn : n ≤ 1048576) (k0 : 0 < k) (k1 : k ≤ 900000000) (h : LooseV w v n) :
    Calls Try.prog 40 #[v, .int .i64 k] w fun e w' => e = .returned (.int .i64 (k + n * 2)) ∧ HeldLV w' v n k ∧ w.grownBy w' v.ownBlock := by
  rcases h with ⟨rfl, rfl⟩ | ⟨g, cap, rfl, hl, hL⟩
  · refine (markL_zero _ _ _).mono ?_
    rintro e w' ⟨rfl, rfl⟩
    exact ⟨by simp, Or.inl ⟨rfl, rfl⟩, World.grownBy.refl _ _⟩
  · exact markL_at g n cap k w hn k0 k1 hl hL
theorem loose_hi {w : World} {v : Value} {n g : Nat} (h : LooseV w v n) (hg : v.ownBlock = some g) : g < w.heap.size := by
  rcases h with ⟨rfl, _⟩ | ⟨g', cap, rfl, hl, _⟩
  · cases hg
  · cases hg; exact hl
set_option maxHeartbeats 2000000 in
/-- Marks laid into both lists of a sheet. -/
theorem markSh_v {a1 a2 : Option Addr} {n n' c1 c2 : Nat} {k : Int} {w : World} (hn : n ≤ 1048576) (hn' : n' ≤ 1048576) (k0 : 0 < k) (k1 : k ≤ 800000000) (h1 : LooseV w (.slice a1 n c1) n) (h2 : LooseV w (.slice a2 n' c2) n') (hne : ∀ g, (Value.slice a1 n c1).ownBlock = some g → (Value.slice a2 n' c2).ownBlock ≠ some g) :
    Calls Try.prog 17 #[.agg #[.slice a1 n c1, .slice a2 n' c2], .int .i64 k] w fun e w' => e = .returned (.int .i64 (k + n * 2 + n' * 2)) ∧ HeldGV w' (.slice a1 n c1) n k ∧ HeldLV w' (.slice a2 n' c2) n' (k + n * 2) ∧ OffV w w' (.slice a1 n c1) (.slice a2 n' c2) := by
  have bn := below_new w (.cells #[.slice a1 n c1, .slice a2 n' c2] 31)
  have N1 : Hid (some w.heap.size ≠ (Value.slice a1 n c1).ownBlock) := hide fun he => by have := loose_hi h1 he.symm; omega
  have O1 := hide (h1.keep bn.size fun _ _ hl => bn.block _ hl)
  have O2 := hide (h2.keep bn.size fun _ _ hl => bn.block _ hl)
  have HI1 := hide fun g => loose_hi (g := g) h1
  have HNE := hide hne
  clear h1 h2 hne
  go_enter Try.func17, Try.ntmps17
  go_wp2_with fail
  refine (markG_v hn k0 (by omega) O1.out).mono ?_
  rintro e w1 ⟨rfl, C1, hg1⟩
  have O2' := hide (O2.out.keep hg1.size fun g hg hl => hg1.block g hl fun he => HNE.out g he.symm hg)
  have HC1 := hide C1
  have HG1 := hide hg1
  have p1 : w1.cell? ⟨w.heap.size, 1, none⟩ = some (.slice a2 n' c2) := (World.cell?_of_block (w := w.alloc (.cells #[.slice a1 n c1, .slice a2 n' c2] 31)) (a := ⟨w.heap.size, 1, none⟩) (hg1.block w.heap.size (by simp) N1.out)).trans (by simp [go_sem])
  clear C1 hg1
  go_wp2_with fail
  refine (markL_v hn' (by omega) (by omega) O2'.out).mono ?_
  rintro e w2 ⟨rfl, C2, hg2⟩
  have s1 : w.heap.size ≤ w1.heap.size := Nat.le_trans (by simp) HG1.out.size
  have C1' := hide (HC1.out.keep hg2.size fun g hg hl => hg2.block g hl fun he => HNE.out g hg he.symm)
  have HC2 := hide C2
  have hoff : OffV w w2 (.slice a1 n c1) (.slice a2 n' c2) := ⟨(hg2.os.trans HG1.out.os).trans bn.os, (hg2.tape.trans HG1.out.tape).trans bn.tape, (hg2.output.trans HG1.out.output).trans bn.output, Nat.le_trans s1 hg2.size, fun b hb h1 h2 => (hg2.block b (by omega) h2).trans ((HG1.out.block b (by simp; omega) h1).trans (bn.block b hb))⟩
  clear C2 hg2 HC1 O1 O2 O2' N1 HNE
  go_wp2_with fail
  go_ret
  exact ⟨rfl, C1'.out, HC2.out, hoff⟩
end Go.Proofs.Ytogkbidphdpjaaa
