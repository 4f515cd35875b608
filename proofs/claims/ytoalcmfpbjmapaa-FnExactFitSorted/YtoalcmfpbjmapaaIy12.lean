/-
  What FirstFit and FitSorted answer, of both.
-/
import Derived.Test.YtoalcmfpbjmapaaIx12
import Derived.Test.YtoalcmfpbjmapaaPf1
namespace Go.Proofs.Ytoalcmfpbjmapaa
open Go.RowKit

def It.ffL (l : List Int) : List (List Int) := if It.goodB l then It.nums (It.fill (its l)) else []
def It.fsL (l : List Int) : List (List Int) := if It.goodB l then It.nums (It.fill (gfL l)) else []
/-- Lists of ints in memory of their own, and whether. -/
def LLP (w : World) (g : Bool) (R : List (List Int)) (e : Ending) (w' : World) : Prop := ∃ v us, e = .returned (.tuple #[v, .bool g]) ∧ LL w' w.heap.size 22 3 1 ints v us R ∧ Below w.heap.size w w'
theorem its_fst (l : List Int) : (its l).map Prod.fst = (List.range l.length).map fun (i : Nat) => (i : Int) := by simp [its, Function.comp_def]
theorem gfL_fst (l : List Int) : (gfL l).map Prod.fst = nats (Rk.rank l) := by simp [gfL, nats, Function.comp_def]
theorem nd_cast {l : List Nat} (h : l.Nodup) : (l.map fun (i : Nat) => (i : Int)).Nodup := by
  induction l with
  | nil => simp
  | cons x l ih =>
    rw [List.nodup_cons] at h
    rw [List.map_cons, List.nodup_cons]
    refine ⟨fun hm => ?_, ih h.2⟩
    obtain ⟨y, hy, e⟩ := List.mem_map.1 hm
    have e' : (y : Int) = (x : Int) := e
    have : y = x := by omega
    exact h.1 (this ▸ hy)
theorem nd_of_fst {L : List (Int × Int)} (h : (L.map Prod.fst).Nodup) : L.Nodup := by
  induction L with
  | nil => simp
  | cons x L ih =>
    rw [List.map_cons, List.nodup_cons] at h
    rw [List.nodup_cons]
    exact ⟨fun hm => h.1 (List.mem_map.2 ⟨x, hm, rfl⟩), ih h.2⟩
theorem its_nd (l : List Int) : (its l).Nodup := nd_of_fst (by rw [its_fst]; exact nd_cast List.nodup_range)
theorem gfL_nd (l : List Int) : (gfL l).Nodup := nd_of_fst (by rw [gfL_fst]; exact nd_cast ((Rk.rank_perm l).nodup_iff.2 List.nodup_range))
theorem its_in {l : List Int} : ∀ x ∈ its l, 0 ≤ x.1 ∧ x.1 < (l.length : Int) ∧ l.getD x.1.toNat 0 = x.2 := fun x hx => by
  obtain ⟨i, hi, rfl⟩ := List.mem_map.1 hx
  have := List.mem_range.1 hi
  exact ⟨by simp, by simpa using this, by simp⟩
theorem gfL_in {l : List Int} : ∀ x ∈ gfL l, 0 ≤ x.1 ∧ x.1 < (l.length : Int) ∧ l.getD x.1.toNat 0 = x.2 := fun x hx => by
  obtain ⟨i, hi, rfl⟩ := List.mem_map.1 hx
  have := Rk.rank_mem hi
  exact ⟨by simp, by simpa using this, by simp⟩
theorem its_sz {l : List Int} (hg : It.goodB l = true) : ∀ x ∈ its l, 1 ≤ x.2 ∧ x.2 ≤ 20 := fun x hx => by
  obtain ⟨i, hi, rfl⟩ := List.mem_map.1 hx
  exact It.good_at hg (List.mem_range.1 hi)
theorem gfL_sz {l : List Int} (hg : It.goodB l = true) : ∀ x ∈ gfL l, 1 ≤ x.2 ∧ x.2 ≤ 20 := fun x hx => by
  obtain ⟨i, hi, rfl⟩ := List.mem_map.1 hx
  exact It.good_at hg (Rk.rank_mem hi)
theorem fill_len {xs : List (Int × Int)} (h : ∀ x ∈ xs, 1 ≤ x.2 ∧ x.2 ≤ 20) : (It.fill xs).length ≤ xs.length ∧ ∀ i, i < (It.fill xs).length → ((It.fill xs).getD i []).length ≤ xs.length := by
  have hf := It.fi_all h xs.length (Nat.le_refl _)
  rw [It.fillTo_all xs (Nat.le_refl _)] at hf
  exact ⟨hf.few, fun i hi => (hf.box i hi).1⟩
theorem LL.low {α : Type} {W : World} {base base' T E s : Nat} {enc : List α → List Value} {v : Value} {us : List Value} {R : List (List α)} (h : LL W base T E s enc v us R) (hb : base' ≤ base) : LL W base' T E s enc v us R := ⟨own_low2 h.1 hb, fun i hi => own_low2 (h.2.1 i hi) hb, h.2.2⟩
theorem pkd_w {a : Option Addr} {n c : Nat} {xs : List (Int × Int)} {w : World} (hx : xs.length = n) (hn : n ≤ 900) (hd : xs.Nodup) (hsz : ∀ x ∈ xs, 1 ≤ x.2 ∧ x.2 ≤ 20) (ha : FRow w a xs) :
    Calls Try.prog 33 #[.slice a n c] w fun e w' => ∃ v us, e = .returned v ∧ LL w' w.heap.size 22 3 1 ints v us (It.nums (It.fill xs)) ∧ Below w.heap.size w w' :=
  pkd_any hx hn hd hsz ha (hide fun v us W _ hl => ni_any hl rfl (by have := (fill_len hsz).1; omega) (fun i hi => by have := (fill_len hsz).2 i hi; omega))
set_option maxHeartbeats 1000000 in
theorem ff_w {a : Option Addr} {n c : Nat} {l : List Int} {w : World} (hx : l.length = n) (ha : ARow w a l) :
    Calls Try.prog 14 #[.slice a n c] w (LLP w (It.goodB l) (It.ffL l)) := by
  have HX := hide hx
  have HA := hide ha
  unfold It.ffL
  cases hg : It.goodB l
  · have HG := hide hg
    clear hx ha hg
    go_enter Try.func14, Try.ntmps14
    go_wp2_with fail
    refine (gi_eq HX HA HG).mono ?_
    rintro e w1 ⟨rfl, rfl⟩
    go_wp2_with fail
    refine bodyPost_ret (v := .tuple #[.slice none 0 0, .bool false]) (by simp [results, Try.results14, go_sem]) rfl ?_
    exact ⟨nilS, [], rfl, LL.nil _ _ _ _ _ _, Below.refl _ _⟩
  · have HG := hide hg
    have h9 := It.good_len hg
    rw [hx] at h9
    have HIO := hide (io_any (c := c) hx (by omega) ha)
    have HPK := hide fun (W : World) (a' : Option Addr) (c' : Nat) (hr : FRow W a' (its l)) => pkd_w (w := W) (c := c') (n := n) (by rw [its_len, hx]) (by omega) (its_nd l) (its_sz hg) hr
    clear ha hg hx
    go_enter Try.func14, Try.ntmps14
    go_wp2_with fail
    refine (gi_eq HX HA HG).mono ?_
    rintro e w1 ⟨rfl, hw1⟩
    obtain rfl : w = w1 := hw1.symm
    go_wp2_with fail
    refine HIO.out.mono ?_
    rintro e w1 ⟨v1, rfl, o1, b1⟩
    obtain ⟨a1, c1, e1, r1⟩ := own_items (by rw [its_len, HX.out]) o1
    subst e1
    have HC := hide (HPK.out w1 a1 c1 r1)
    have B1 := hide b1
    clear o1 b1 r1 HIO HPK
    go_wp2_with fail
    refine HC.out.mono ?_
    rintro e w2 ⟨v2, us2, rfl, l2, b2⟩
    go_wp2_with fail
    refine bodyPost_ret (v := .tuple #[v2, .bool true]) (by simp [results, Try.results14, go_sem]) rfl ?_
    exact ⟨v2, us2, rfl, l2.low B1.out.size, B1.out.trans (b2.mono B1.out.size)⟩
set_option maxHeartbeats 1000000 in
theorem fs_w {a : Option Addr} {n c : Nat} {l : List Int} {w : World} (hx : l.length = n) (ha : ARow w a l) :
    Calls Try.prog 20 #[.slice a n c] w (LLP w (It.goodB l) (It.fsL l)) := by
  have HX := hide hx
  have HA := hide ha
  unfold It.fsL
  cases hg : It.goodB l
  · have HG := hide hg
    clear hx ha hg
    go_enter Try.func20, Try.ntmps20
    go_wp2_with fail
    refine (gi_eq HX HA HG).mono ?_
    rintro e w1 ⟨rfl, rfl⟩
    go_wp2_with fail
    refine bodyPost_ret (v := .tuple #[.slice none 0 0, .bool false]) (by simp [results, Try.results20, go_sem]) rfl ?_
    exact ⟨nilS, [], rfl, LL.nil _ _ _ _ _ _, Below.refl _ _⟩
  · have HG := hide hg
    have h9 := It.good_len hg
    rw [hx] at h9
    have HIO := hide (gf_any (c := c) hx (by omega) ha)
    have HPK := hide fun (W : World) (a' : Option Addr) (c' : Nat) (hr : FRow W a' (gfL l)) => pkd_w (w := W) (c := c') (n := n) (by rw [gfL_len, hx]) (by omega) (gfL_nd l) (gfL_sz hg) hr
    clear ha hg hx
    go_enter Try.func20, Try.ntmps20
    go_wp2_with fail
    refine (gi_eq HX HA HG).mono ?_
    rintro e w1 ⟨rfl, hw1⟩
    obtain rfl : w = w1 := hw1.symm
    go_wp2_with fail
    refine HIO.out.mono ?_
    rintro e w1 ⟨a1, c1, rfl, _, r1, b1⟩
    have HC := hide (HPK.out w1 a1 c1 r1)
    have B1 := hide b1
    clear b1 r1 HIO HPK
    go_wp2_with fail
    refine HC.out.mono ?_
    rintro e w2 ⟨v2, us2, rfl, l2, b2⟩
    go_wp2_with fail
    refine bodyPost_ret (v := .tuple #[v2, .bool true]) (by simp [results, Try.results20, go_sem]) rfl ?_
    exact ⟨v2, us2, rfl, l2.low B1.out.size, B1.out.trans (b2.mono B1.out.size)⟩
set_option maxHeartbeats 1000000 in
theorem sff_w {a : Option Addr} {n c : Nat} {l : List Int} {w : World} (hx : l.length = n) (ha : ARow w a l) :
    Calls Try.prog 13 #[.slice a n c] w (LLP w (It.goodB l) (It.ffL l)) := by
  have HX := hide hx
  have HA := hide ha
  unfold It.ffL
  cases hg : It.goodB l
  · have HG := hide hg
    clear hx ha hg
    go_enter Try.func13, Try.ntmps13
    go_wp2_with fail
    refine (sgi_eq HX HA HG).mono ?_
    rintro e w1 ⟨rfl, rfl⟩
    go_wp2_with fail
    refine bodyPost_ret (v := .tuple #[.slice none 0 0, .bool false]) (by simp [results, Try.results13, go_sem]) rfl ?_
    exact ⟨nilS, [], rfl, LL.nil _ _ _ _ _ _, Below.refl _ _⟩
  · have HG := hide hg
    have h9 := It.good_len hg
    rw [hx] at h9
    have HLF := hide fun (W : World) (a' : Option Addr) (c' : Nat) (h : Below w.heap.size w W) (hr : ARow W a' ((List.range n).map fun (i : Nat) => (i : Int))) => lf_any (w := W) (c := c) (d := c') (m := n) (xs := its l) hx (by omega) (by rw [its_len, hx]) (by omega) (by rw [← hx]; exact its_in) (its_sz hg) (ha.below h) (by rw [its_fst, hx]; exact hr)
    clear ha hg hx
    go_enter Try.func13, Try.ntmps13
    go_wp2_with fail
    refine (sgi_eq HX HA HG).mono ?_
    rintro e w1 ⟨rfl, hw1⟩
    obtain rfl : w = w1 := hw1.symm
    go_wp2_with fail
    refine (ln_any (by omega)).mono ?_
    rintro e w1 ⟨a1, c1, rfl, r1, b1⟩
    have HC := hide (HLF.out w1 a1 c1 b1 r1)
    have B1 := hide b1
    clear b1 r1 HLF
    go_wp2_with fail
    refine HC.out.mono ?_
    rintro e w2 ⟨v2, us2, rfl, l2, b2⟩
    go_wp2_with fail
    refine bodyPost_ret (v := .tuple #[v2, .bool true]) (by simp [results, Try.results13, go_sem]) rfl ?_
    exact ⟨v2, us2, rfl, l2.low B1.out.size, B1.out.trans (b2.mono B1.out.size)⟩
set_option maxHeartbeats 1000000 in
theorem sfs_w {a : Option Addr} {n c : Nat} {l : List Int} {w : World} (hx : l.length = n) (ha : ARow w a l) :
    Calls Try.prog 19 #[.slice a n c] w (LLP w (It.goodB l) (It.fsL l)) := by
  have HX := hide hx
  have HA := hide ha
  unfold It.fsL
  cases hg : It.goodB l
  · have HG := hide hg
    clear hx ha hg
    go_enter Try.func19, Try.ntmps19
    go_wp2_with fail
    refine (sgi_eq HX HA HG).mono ?_
    rintro e w1 ⟨rfl, rfl⟩
    go_wp2_with fail
    refine bodyPost_ret (v := .tuple #[.slice none 0 0, .bool false]) (by simp [results, Try.results19, go_sem]) rfl ?_
    exact ⟨nilS, [], rfl, LL.nil _ _ _ _ _ _, Below.refl _ _⟩
  · have HG := hide hg
    have h9 := It.good_len hg
    rw [hx] at h9
    have HLF := hide fun (W : World) (a' : Option Addr) (c' : Nat) (h : Below w.heap.size w W) (hr : ARow W a' (nats (Rk.rank l))) => lf_any (w := W) (c := c) (d := c') (m := n) (xs := gfL l) hx (by omega) (by rw [gfL_len, hx]) (by omega) (by rw [← hx]; exact gfL_in) (gfL_sz hg) (ha.below h) (by rw [gfL_fst]; exact hr)
    have HRK := hide (srank_any (c := c) hx (by omega) ha)
    clear ha hg hx
    go_enter Try.func19, Try.ntmps19
    go_wp2_with fail
    refine (sgi_eq HX HA HG).mono ?_
    rintro e w1 ⟨rfl, hw1⟩
    obtain rfl : w = w1 := hw1.symm
    go_wp2_with fail
    refine HRK.out.mono ?_
    rintro e w1 ⟨v1, rfl, b1, o1⟩
    obtain ⟨a1, c1, e1, r1⟩ := own_row (by rw [nats_len, Rk.rank_len, HX.out]) o1
    subst e1
    have HC := hide (HLF.out w1 a1 c1 b1 r1)
    have B1 := hide b1
    clear b1 r1 HLF o1 HRK
    go_wp2_with fail
    refine HC.out.mono ?_
    rintro e w2 ⟨v2, us2, rfl, l2, b2⟩
    go_wp2_with fail
    refine bodyPost_ret (v := .tuple #[v2, .bool true]) (by simp [results, Try.results19, go_sem]) rfl ?_
    exact ⟨v2, us2, rfl, l2.low B1.out.size, B1.out.trans (b2.mono B1.out.size)⟩
end Go.Proofs.Ytoalcmfpbjmapaa
