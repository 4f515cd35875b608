/-
  In one: Wl, Hb, Wp, Wm, Wo0, Kp, Wq, Wr9, Shelf, Wn.
-/
import Derived.Test.YtkebaklmkidfoaaZ3
import Derived.Deep.MidRow
import Derived.Deep.DeepCutAuto
import Derived.Test.YtkebaklmkidfoaaZ1
import Derived.BigQuiet
import Derived.Test.YtkebaklmkidfoaaChecked
import Derived.Shelf.Bits.Mul64
import Derived.Test.YtkebaklmkidfoaaZ2
import Derived.Laws.CopyRow
import Derived.Deep.RegionLaw
namespace Go.Proofs.Ytkebaklmkidfoaa
open Go.RowKit

/-- All but three blocks as it was. -/
structure Off3 (w w' : World) (x y z : Nat) : Prop where
  os : w'.os = w.os
  tape : w'.tape = w.tape
  output : w'.output = w.output
  size : w.heap.size ≤ w'.heap.size
  block : ∀ b, b < w.heap.size → b ≠ x → b ≠ y → b ≠ z → w'.heap[b]? = w.heap[b]?
theorem Off3.refl (w : World) (x y z : Nat) : Off3 w w x y z := ⟨rfl, rfl, rfl, Nat.le_refl _, fun _ _ _ _ _ => rfl⟩
theorem Off3.below {w w1 w2 : World} {x y z k : Nat} (h : Off3 w w1 x y z) (hb : Below k w1 w2) (hk : w.heap.size ≤ k) : Off3 w w2 x y z :=
  ⟨hb.os.trans h.os, hb.tape.trans h.tape, hb.output.trans h.output, Nat.le_trans h.size hb.size, fun b hb' n1 n2 n3 => (hb.block b (by omega)).trans (h.block b hb' n1 n2 n3)⟩
theorem Off3.off2 {w w1 w2 : World} {x y z : Nat} (h : Off3 w w1 x y z) (hb : Off2 w1 w2 y z) : Off3 w w2 x y z :=
  ⟨hb.os.trans h.os, hb.tape.trans h.tape, hb.output.trans h.output, Nat.le_trans h.size hb.size, fun b hb' n1 n2 n3 => (hb.block b (by have := h.size; omega) n2 n3).trans (h.block b hb' n1 n2 n3)⟩
theorem Off3.grown {w w1 w2 : World} {x y z : Nat} (h : Off3 w w1 x y z) (hb : w1.grownBy w2 (some x)) : Off3 w w2 x y z :=
  ⟨hb.os.trans h.os, hb.tape.trans h.tape, hb.output.trans h.output, Nat.le_trans h.size hb.size, fun b hb' n1 n2 n3 => (hb.block b (by have := h.size; omega) (by simpa using n1)).trans (h.block b hb' n1 n2 n3)⟩
theorem Off3.under {w0 w w1 : World} {x y z : Nat} (h : Off3 w w1 x y z) (h0 : Below w0.heap.size w0 w) (hx : w0.heap.size ≤ x) (hy : w0.heap.size ≤ y) (hz : w0.heap.size ≤ z) : Below w0.heap.size w0 w1 :=
  ⟨h.os.trans h0.os, h.tape.trans h0.tape, h.output.trans h0.output, Nat.le_trans h0.size h.size, fun b hb => (h.block b (by have := h0.size; omega) (by omega) (by omega) (by omega)).trans (h0.block b hb)⟩
/-- What lies around a way: the costs, the fitting's variable, its three lists. -/
structure AL (w0 w wr : World) (e : Option Addr) (n ce FT PU PV : Nat) (C : List (List Int)) (ft us vs : List Int) : Prop where
  c0 : CRow w0 e C
  b0 : Below w0.heap.size w0 w
  off : Off3 w wr FT PU PV
  lt : w.heap.size < wr.heap.size
  f0 : wr.cell? ⟨w.heap.size, 0, none⟩ = some (.slice e n ce)
  f1 : wr.cell? ⟨w.heap.size, 1, none⟩ = some (.slice (some ⟨FT, 0, none⟩) n n)
  f2 : wr.cell? ⟨w.heap.size, 2, none⟩ = some (.slice (some ⟨PU, 0, none⟩) n n)
  f3 : wr.cell? ⟨w.heap.size, 3, none⟩ = some (.slice (some ⟨PV, 0, none⟩) n n)
  ft : wr.ownsRow w0.heap.size 3 1 (.slice (some ⟨FT, 0, none⟩) n n) n (ints ft)
  pu : wr.ownsRow w0.heap.size 3 1 (.slice (some ⟨PU, 0, none⟩) n n) n (ints us)
  pv : wr.ownsRow w0.heap.size 3 1 (.slice (some ⟨PV, 0, none⟩) n n) n (ints vs)
  n1 : FT ≠ PU
  n2 : FT ≠ PV
  n3 : PU ≠ PV
  l1 : FT < w.heap.size
  l2 : PU < w.heap.size
  l3 : PV < w.heap.size
theorem AL.c {w0 w wr : World} {e : Option Addr} {n ce FT PU PV : Nat} {C : List (List Int)} {ft us vs : List Int} (h : AL w0 w wr e n ce FT PU PV C ft us vs) : CRow wr e C :=
  h.c0.below (h.off.under h.b0 (h.ft.lt FT rfl).1 (h.pu.lt PU rfl).1 (h.pv.lt PV rfl).1)
theorem AL.blw {w0 w wr w2 : World} {e : Option Addr} {n ce FT PU PV k : Nat} {C : List (List Int)} {ft us vs : List Int} (h : AL w0 w wr e n ce FT PU PV C ft us vs) (hb : Below k wr w2) (hk : w.heap.size + 1 ≤ k) : AL w0 w w2 e n ce FT PU PV C ft us vs where
  c0 := h.c0
  b0 := h.b0
  off := h.off.below hb (by omega)
  lt := Nat.lt_of_lt_of_le h.lt hb.size
  f0 := (hb.cell (p := ⟨w.heap.size, 0, none⟩) (by show w.heap.size < k; omega)).trans h.f0
  f1 := (hb.cell (p := ⟨w.heap.size, 1, none⟩) (by show w.heap.size < k; omega)).trans h.f1
  f2 := (hb.cell (p := ⟨w.heap.size, 2, none⟩) (by show w.heap.size < k; omega)).trans h.f2
  f3 := (hb.cell (p := ⟨w.heap.size, 3, none⟩) (by show w.heap.size < k; omega)).trans h.f3
  ft := own_blk h.ft fun g hg => by simp [Value.ownBlock] at hg; subst hg; exact hb.block _ (by have := h.l1; omega)
  pu := own_blk h.pu fun g hg => by simp [Value.ownBlock] at hg; subst hg; exact hb.block _ (by have := h.l2; omega)
  pv := own_blk h.pv fun g hg => by simp [Value.ownBlock] at hg; subst hg; exact hb.block _ (by have := h.l3; omega)
  n1 := h.n1
  n2 := h.n2
  n3 := h.n3
  l1 := h.l1
  l2 := h.l2
  l3 := h.l3
theorem AL.shift {w0 w wr w2 : World} {e : Option Addr} {n ce FT PU PV : Nat} {C : List (List Int)} {ft us vs us' vs' : List Int} (h : AL w0 w wr e n ce FT PU PV C ft us vs) (hb : Off2 wr w2 PU PV) (hu : w2.ownsRow w0.heap.size 3 1 (.slice (some ⟨PU, 0, none⟩) n n) n (ints us')) (hv : w2.ownsRow w0.heap.size 3 1 (.slice (some ⟨PV, 0, none⟩) n n) n (ints vs')) : AL w0 w w2 e n ce FT PU PV C ft us' vs' where
  c0 := h.c0
  b0 := h.b0
  off := h.off.off2 hb
  lt := Nat.lt_of_lt_of_le h.lt hb.size
  f0 := (hb.cell h.lt (by have := h.l2; omega) (by have := h.l3; omega)).trans h.f0
  f1 := (hb.cell h.lt (by have := h.l2; omega) (by have := h.l3; omega)).trans h.f1
  f2 := (hb.cell h.lt (by have := h.l2; omega) (by have := h.l3; omega)).trans h.f2
  f3 := (hb.cell h.lt (by have := h.l2; omega) (by have := h.l3; omega)).trans h.f3
  ft := own_blk h.ft fun g hg => by simp [Value.ownBlock] at hg; subst hg; exact hb.block _ (by have := h.l1; have := h.lt; omega) h.n1 h.n2
  pu := hu
  pv := hv
  n1 := h.n1
  n2 := h.n2
  n3 := h.n3
  l1 := h.l1
  l2 := h.l2
  l3 := h.l3
theorem Sr.off2 {w w' : World} {base b x y : Nat} {v0 v1 v2 : Value} {ls gn lf xs ys : List Int} (h : Sr w base b v0 v1 v2 ls gn lf xs ys) (hb : Off2 w w' x y) (hx : x < base) (hy : y < base) : Sr w' base b v0 v1 v2 ls gn lf xs ys :=
  ⟨h.sv.keep hb.size (hb.block b h.sv.lt (by have := h.bb; omega) (by have := h.bb; omega)), own_blk h.o0 fun g hg => hb.block g (h.o0.lt g hg).2 (by have := (h.o0.lt g hg).1; omega) (by have := (h.o0.lt g hg).1; omega), own_blk h.o1 fun g hg => hb.block g (h.o1.lt g hg).2 (by have := (h.o1.lt g hg).1; omega) (by have := (h.o1.lt g hg).1; omega), own_blk h.o2 fun g hg => hb.block g (h.o2.lt g hg).2 (by have := (h.o2.lt g hg).1; omega) (by have := (h.o2.lt g hg).1; omega), h.bb, h.d0, h.d1, h.d2, h.d01, h.d02, h.d12⟩
theorem own_apart {w : World} {base n c m x : Nat} {a : Option Addr} {xs : List Value} (h : w.ownsRow base 3 1 (.slice a n c) m xs) (hx : x < base) : ∀ b o, a = some ⟨b, o, none⟩ → b ≠ x := by
  rintro b o rfl e
  have := (h.lt b rfl).1
  omega
end Go.Proofs.Ytkebaklmkidfoaa
namespace Go.Proofs.Ytkebaklmkidfoaa
open Go.RowKit

def bls (bs : List Bool) : List Value := bs.map fun b => .bool b
theorem bls_len (bs : List Bool) : (bls bs).length = bs.length := by simp [bls]
theorem bls_get (bs : List Bool) (j : Nat) (h : j < bs.length) (d : Bool) : (bls bs)[j]? = some (.bool (bs.getD j d)) := by simp [bls, h]
theorem bls_set (bs : List Bool) (j : Nat) (x : Bool) : (bls bs).set j (.bool x) = bls (bs.set j x) := by simp [bls, List.map_set]
theorem makeB_run (n : Nat) (hn : n ≤ 1048576) (w : World) : (Instr.makeSlice 41 (.int .i64 (n : Int)) (.int .i64 (n : Int))).run Try.prog w = .ok (.slice (some ⟨w.heap.size, 0, none⟩) n n) (w.alloc (.cells (madeCells #[.bool false] n) 4)) := by
  have h : (Try.prog.info? 4).map (fun i => (i.zero, i.size, i.bytes)) = some (some (.bool false), 1, 1) := by kernel_rfl
  obtain ⟨i, hi, hzz⟩ := Option.map_eq_some_iff.1 h
  simp only [Prod.mk.injEq] at hzz
  obtain ⟨hz, hs, hb⟩ := hzz
  have := run_make (P := Try.prog) w 41 4 i _ Try.underlying41 hi hz .i64 .i64 (n : Int) (n : Int) (by omega) (by omega) (by rw [hb]; omega) (by omega)
  simpa [hs, Value.cells] using this
theorem madeB_own (w : World) (n : Nat) (hn : n ≤ 1048576) : (w.alloc (.cells (madeCells #[.bool false] n) 4)).ownsRow w.heap.size 4 1 (.slice (some ⟨w.heap.size, 0, none⟩) n n) n (bls (List.replicate n false)) := by
  have h := World.ownsRow_lit (base := w.heap.size) (e := 4) (size := 1) w (madeCells #[.bool false] n) n (Nat.le_refl _) (by unfold maxLen; omega) (by simp [madeCells])
  rw [toList_madeCells_one] at h
  simpa [bls] using h


set_option maxRecDepth 100000 in
set_option maxHeartbeats 1000000 in
theorem eo_ne {a : Option Addr} {n m c : Nat} {w : World} (h : m ≠ n) :
    Calls Try.prog 32 #[.slice a m c, .int .i64 n] w fun e w' => e = .returned (.bool false) ∧ Below w.heap.size w w' := by
  have h1 : ((m : Int) != (n : Int)) = true := by simp; omega
  go_enter Try.func32, Try.ntmps32
  go_wp2_with fail
  go_ret
  exact ⟨rfl, Below.refl _ _⟩
set_option maxRecDepth 100000 in
set_option maxHeartbeats 2000000 in
theorem eo_same {a : Option Addr} {n c : Nat} {xs : List Int} {w : World} (hx : xs.length = n) (hn : n ≤ 10) (ha : ARow w a xs) :
    Calls Try.prog 32 #[.slice a n c, .int .i64 n] w fun e w' => e = .returned (.bool (Od.ordB xs n)) ∧ Below w.heap.size w w' := by
  have h1 : ((n : Int) != (n : Int)) = false := by simp
  have hmk := makeB_run n (by omega)
  have HA := hide ha
  have HX := hide hx
  have HO := hide (madeB_own w n (by omega))
  clear ha hx
  go_enter Try.func32, Try.ntmps32
  go_wp2_with fail
  go_loopw [4, 7, 16] (fun s4 _ s wr => ∃ (k : Nat), s4 = .bool false ∧ s = .int .i64 k ∧ k ≤ n ∧ Hid (∀ i, i < k → Od.okAt xs n i = true) ∧ wr.ownsRow w.heap.size 4 1 (.slice (some ⟨w.heap.size, 0, none⟩) n n) n (bls (Od.seen xs k n)) ∧ Below w.heap.size w wr) (fun _ _ s _ => n - (intOf s).toNat)
  case atStart => exact ⟨0, rfl, rfl, Nat.zero_le _, hide fun i hi => absurd hi (Nat.not_lt_zero _), by rw [Od.seen_zero]; exact HO.out, (Below.refl _ _).alloc (Nat.le_refl _) _⟩
  case round =>
    obtain ⟨k, rfl, rfl, hk, HK, hown, hB⟩ := hrel
    clear hmk HO
    by_cases hlt : k < n
    · obtain ⟨b, off, rfl, r1⟩ := (HA.out.below hB).at (i := k) (by rw [HX.out]; exact hlt)
      have i0 : (0 : Int) ≤ (k : Int) := by omega
      have i1 : (k : Int) < (n : Int) := by omega
      generalize hx : xs.getD k 0 = x at r1
      cases hb : Pf.inB x 0 ((n : Int) - 1)
      · have HN := hide (Od.ordB_not hlt (show Od.okAt xs n k = false by simp only [Od.okAt]; rw [hx, hb]; rfl))
        clear hx hown
        go_wp2_with fail
        refine (between_eq hb).mono ?_
        rintro e w1 ⟨rfl, rfl⟩
        go_wp2_with fail
        go_ret
        exact ⟨ret_bool HN.out.symm, hB⟩
      · obtain ⟨j, rfl⟩ : ∃ j : Nat, x = (j : Int) := ⟨x.toNat, by have := Pf.inB_yes hb; omega⟩
        have hj : j < n := by have := Pf.inB_yes hb; omega
        have j0 : (0 : Int) ≤ (j : Int) := by omega
        have j1 : (j : Int) < (n : Int) := by omega
        have c0 : wr.cell? ⟨w.heap.size, j, none⟩ = some (.bool ((xs.take k).contains (j : Int))) := by
          rw [hown.cellAt j (by rw [Nat.mul_one]; exact hj), bls_get _ j (by rw [Od.seen_len]; exact hj) false, Od.seen_get xs k n j hj]
        have HS := hide (fun (h : (xs.take k).contains (j : Int) = true) => Od.ordB_not hlt (show Od.okAt xs n k = false by simp only [Od.okAt]; rw [hx, h]; simp))
        have HT := hide (fun (h : (xs.take k).contains (j : Int) = false) => show Od.okAt xs n k = true by simp only [Od.okAt]; rw [hx, h, hb]; rfl)
        have f0 := hown.frozenAt j
        obtain ⟨st1, st2⟩ := hown.stored j (.bool true)
        rw [bls_set, Od.seen_step xs k n j (by rw [HX.out]; exact hlt) hx] at st1
        have HST := hide st1
        generalize (xs.take k).contains (j : Int) = sb at *
        clear hx st1 hown
        cases sb
        · go_wp2_with fail
          refine (between_eq hb).mono ?_
          rintro e w1 ⟨rfl, rfl⟩
          go_wp2_with fail
          go_roundw
          case rel =>
            refine ⟨k + 1, rfl, by go_num, by omega, hide fun i hi => ?_, HST.out, hB.setCell (Nat.le_refl _) _⟩
            by_cases e : i = k
            · subst e; exact HT.out trivial
            · exact HK.out i (by omega)
          case measure => simp only [intOf]; omega
        · go_wp2_with fail
          refine (between_eq hb).mono ?_
          rintro e w1 ⟨rfl, rfl⟩
          go_wp2_with fail
          go_ret
          exact ⟨ret_bool (HS.out trivial).symm, hB⟩
    · have hke : k = n := by omega
      subst hke
      have HY := hide (Od.ordB_of HX.out HK.out)
      go_wp2_with fail
      go_ret
      exact ⟨ret_bool HY.out.symm, hB⟩
theorem eo_any {a : Option Addr} {n m c : Nat} {xs : List Int} {w : World} (hx : xs.length = m) (hn : n ≤ 10) (ha : ARow w a xs) :
    Calls Try.prog 32 #[.slice a m c, .int .i64 n] w fun e w' => e = .returned (.bool (Od.ordB xs n)) ∧ Below w.heap.size w w' := by
  by_cases h : m = n
  · subst h; exact eo_same hx hn ha
  · rw [Od.ordB_ne (by omega)]; exact eo_ne h
theorem eo_eq {a : Option Addr} {n m c : Nat} {xs : List Int} {w : World} {r : Bool} (hx : Hid (xs.length = m)) (hn : n ≤ 10) (ha : Hid (ARow w a xs)) (h : Hid (Od.ordB xs n = r)) :
    Calls Try.prog 32 #[.slice a m c, .int .i64 n] w fun e w' => e = .returned (.bool r) ∧ Below w.heap.size w w' := h.out ▸ eo_any hx.out hn ha.out
end Go.Proofs.Ytkebaklmkidfoaa
namespace Go.Proofs.Ytkebaklmkidfoaa
open Go.RowKit

def tabB (n : Nat) (f : Nat → Bool) : List Bool := (List.range n).map f
theorem tabB_len (n : Nat) (f : Nat → Bool) : (tabB n f).length = n := by simp [tabB]
theorem tabB_get (f : Nat → Bool) {n i : Nat} (h : i < n) : (tabB n f).getD i false = f i := by simp [tabB, h]
def updB (f : Nat → Bool) (k : Nat) (x : Bool) : Nat → Bool := fun i => if i = k then x else f i
theorem tab_set (f : Hu.Fn) (n i : Nat) (x : Int) : (Hu.tab n f).set i x = Hu.tab n (Hu.upd f i x) := by
  apply List.ext_getElem
  · simp [Hu.tab]
  · intro j h1 h2
    simp only [Hu.tab, List.getElem_set, List.getElem_map, List.getElem_range, Hu.upd]
    by_cases e : i = j
    · subst e; simp
    · have : ¬ j = i := fun h => e h.symm
      simp [e, this]
theorem tabB_set (f : Nat → Bool) (n i : Nat) (x : Bool) : (tabB n f).set i x = tabB n (updB f i x) := by
  apply List.ext_getElem
  · simp [tabB]
  · intro j h1 h2
    simp only [tabB, List.getElem_set, List.getElem_map, List.getElem_range, updB]
    by_cases e : i = j
    · subst e; simp
    · have : ¬ j = i := fun h => e h.symm
      simp [e, this]
theorem tab_congr {n : Nat} {f g : Hu.Fn} (h : ∀ i, i < n → f i = g i) : Hu.tab n f = Hu.tab n g := by
  unfold Hu.tab; exact List.map_congr_left fun i hi => h i (List.mem_range.1 hi)
theorem tabB_congr {n : Nat} {f g : Nat → Bool} (h : ∀ i, i < n → f i = g i) : tabB n f = tabB n g := by
  unfold tabB; exact List.map_congr_left fun i hi => h i (List.mem_range.1 hi)
theorem Off3.set {w w1 : World} {x y z g k : Nat} (h : Off3 w w1 x y z) (v : Value) (hg : g = x ∨ g = y ∨ g = z ∨ w.heap.size ≤ g) : Off3 w (w1.setCell ⟨g, k, none⟩ v) x y z :=
  ⟨h.os, h.tape, h.output, by simpa using h.size, fun b hb n1 n2 n3 => (Below.heap_setCell _ _ _ _ (by rcases hg with e | e | e | e <;> (show b ≠ g; omega))).trans (h.block b hb n1 n2 n3)⟩
structure S6 (w wr : World) (bs M : Nat) (e : Option Addr) (n ce cap PU PV OW LS FR GN : Nat) (u v o ls fr : Hu.Fn) (gn : Nat → Bool) : Prop where
  m0 : wr.cell? ⟨M, 0, none⟩ = some (.slice e n ce)
  m1 : wr.cell? ⟨M, 1, none⟩ = some (.slice (some ⟨PU, 0, none⟩) n n)
  m2 : wr.cell? ⟨M, 2, none⟩ = some (.slice (some ⟨PV, 0, none⟩) n n)
  m3 : wr.cell? ⟨M, 3, none⟩ = some (.slice (some ⟨OW, 0, none⟩) n cap)
  pu : wr.ownsRow bs 3 1 (.slice (some ⟨PU, 0, none⟩) n n) n (ints (Hu.tab n u))
  pv : wr.ownsRow bs 3 1 (.slice (some ⟨PV, 0, none⟩) n n) n (ints (Hu.tab n v))
  ow : wr.ownsRow bs 3 1 (.slice (some ⟨OW, 0, none⟩) n cap) n (ints (Hu.tab n o))
  ls : wr.ownsRow w.heap.size 3 1 (.slice (some ⟨LS, 0, none⟩) n n) n (ints (Hu.tab n ls))
  fr : wr.ownsRow w.heap.size 3 1 (.slice (some ⟨FR, 0, none⟩) n n) n (ints (Hu.tab n fr))
  gn : wr.ownsRow w.heap.size 4 1 (.slice (some ⟨GN, 0, none⟩) n n) n (bls (tabB n gn))
  nd : [M, PU, PV, OW, LS, FR, GN].Nodup
  off : Off3 w wr OW PU PV
  ml : M < w.heap.size
theorem S6.set_pu {w wr : World} {bs M : Nat} {e : Option Addr} {n ce cap PU PV OW LS FR GN : Nat} {u v o ls fr : Hu.Fn} {gn : Nat → Bool} (h : S6 w wr bs M e n ce cap PU PV OW LS FR GN u v o ls fr gn) {i : Nat} (x : Int) (d : Nat) : S6 w ((wr.drewN d).setCell ⟨PU, i, none⟩ (.int .i64 x)) bs M e n ce cap PU PV OW LS FR GN (Hu.upd u i x) (v) (o) (ls) (fr) (gn) := by
  have nd := h.nd
  simp only [List.nodup_cons, List.mem_cons, List.not_mem_nil, or_false, not_or, List.nodup_nil, and_true, not_false_eq_true] at nd
  have hd := below_drewN (Below.refl wr.heap.size wr) d
  have oth : ∀ g, g ≠ PU → ((wr.drewN d).setCell ⟨PU, i, none⟩ (.int .i64 x)).heap[g]? = (wr.drewN d).heap[g]? := fun g hg => Below.heap_setCell _ _ _ _ hg
  have cel : ∀ k vv, wr.cell? ⟨M, k, none⟩ = some vv → ((wr.drewN d).setCell ⟨PU, i, none⟩ (.int .i64 x)).cell? ⟨M, k, none⟩ = some vv := fun k vv hv => (World.cell?_of_block (w := wr.drewN d) (a := ⟨M, k, none⟩) (oth M (by omega))).trans hv
  refine ⟨cel _ _ h.m0, cel _ _ h.m1, cel _ _ h.m2, cel _ _ h.m3, ?_, ?_, ?_, ?_, ?_, ?_, h.nd, (h.off.below hd h.off.size).set _ ?_, h.ml⟩
  · have := ((g_own h.pu hd).stored i (.int .i64 x)).1
    rw [ints_set, tab_set] at this
    exact this
  · exact own_blk (g_own h.pv hd) fun g hg => oth g (by simp [Value.ownBlock] at hg; omega)
  · exact own_blk (g_own h.ow hd) fun g hg => oth g (by simp [Value.ownBlock] at hg; omega)
  · exact own_blk (g_own h.ls hd) fun g hg => oth g (by simp [Value.ownBlock] at hg; omega)
  · exact own_blk (g_own h.fr hd) fun g hg => oth g (by simp [Value.ownBlock] at hg; omega)
  · exact own_blk (g_own h.gn hd) fun g hg => oth g (by simp [Value.ownBlock] at hg; omega)
  · exact Or.inr (Or.inl rfl)
theorem S6.set_pv {w wr : World} {bs M : Nat} {e : Option Addr} {n ce cap PU PV OW LS FR GN : Nat} {u v o ls fr : Hu.Fn} {gn : Nat → Bool} (h : S6 w wr bs M e n ce cap PU PV OW LS FR GN u v o ls fr gn) {i : Nat} (x : Int) (d : Nat) : S6 w ((wr.drewN d).setCell ⟨PV, i, none⟩ (.int .i64 x)) bs M e n ce cap PU PV OW LS FR GN (u) (Hu.upd v i x) (o) (ls) (fr) (gn) := by
  have nd := h.nd
  simp only [List.nodup_cons, List.mem_cons, List.not_mem_nil, or_false, not_or, List.nodup_nil, and_true, not_false_eq_true] at nd
  have hd := below_drewN (Below.refl wr.heap.size wr) d
  have oth : ∀ g, g ≠ PV → ((wr.drewN d).setCell ⟨PV, i, none⟩ (.int .i64 x)).heap[g]? = (wr.drewN d).heap[g]? := fun g hg => Below.heap_setCell _ _ _ _ hg
  have cel : ∀ k vv, wr.cell? ⟨M, k, none⟩ = some vv → ((wr.drewN d).setCell ⟨PV, i, none⟩ (.int .i64 x)).cell? ⟨M, k, none⟩ = some vv := fun k vv hv => (World.cell?_of_block (w := wr.drewN d) (a := ⟨M, k, none⟩) (oth M (by omega))).trans hv
  refine ⟨cel _ _ h.m0, cel _ _ h.m1, cel _ _ h.m2, cel _ _ h.m3, ?_, ?_, ?_, ?_, ?_, ?_, h.nd, (h.off.below hd h.off.size).set _ ?_, h.ml⟩
  · exact own_blk (g_own h.pu hd) fun g hg => oth g (by simp [Value.ownBlock] at hg; omega)
  · have := ((g_own h.pv hd).stored i (.int .i64 x)).1
    rw [ints_set, tab_set] at this
    exact this
  · exact own_blk (g_own h.ow hd) fun g hg => oth g (by simp [Value.ownBlock] at hg; omega)
  · exact own_blk (g_own h.ls hd) fun g hg => oth g (by simp [Value.ownBlock] at hg; omega)
  · exact own_blk (g_own h.fr hd) fun g hg => oth g (by simp [Value.ownBlock] at hg; omega)
  · exact own_blk (g_own h.gn hd) fun g hg => oth g (by simp [Value.ownBlock] at hg; omega)
  · exact Or.inr (Or.inr (Or.inl rfl))
theorem S6.set_ow {w wr : World} {bs M : Nat} {e : Option Addr} {n ce cap PU PV OW LS FR GN : Nat} {u v o ls fr : Hu.Fn} {gn : Nat → Bool} (h : S6 w wr bs M e n ce cap PU PV OW LS FR GN u v o ls fr gn) {i : Nat} (x : Int) (d : Nat) : S6 w ((wr.drewN d).setCell ⟨OW, i, none⟩ (.int .i64 x)) bs M e n ce cap PU PV OW LS FR GN (u) (v) (Hu.upd o i x) (ls) (fr) (gn) := by
  have nd := h.nd
  simp only [List.nodup_cons, List.mem_cons, List.not_mem_nil, or_false, not_or, List.nodup_nil, and_true, not_false_eq_true] at nd
  have hd := below_drewN (Below.refl wr.heap.size wr) d
  have oth : ∀ g, g ≠ OW → ((wr.drewN d).setCell ⟨OW, i, none⟩ (.int .i64 x)).heap[g]? = (wr.drewN d).heap[g]? := fun g hg => Below.heap_setCell _ _ _ _ hg
  have cel : ∀ k vv, wr.cell? ⟨M, k, none⟩ = some vv → ((wr.drewN d).setCell ⟨OW, i, none⟩ (.int .i64 x)).cell? ⟨M, k, none⟩ = some vv := fun k vv hv => (World.cell?_of_block (w := wr.drewN d) (a := ⟨M, k, none⟩) (oth M (by omega))).trans hv
  refine ⟨cel _ _ h.m0, cel _ _ h.m1, cel _ _ h.m2, cel _ _ h.m3, ?_, ?_, ?_, ?_, ?_, ?_, h.nd, (h.off.below hd h.off.size).set _ ?_, h.ml⟩
  · exact own_blk (g_own h.pu hd) fun g hg => oth g (by simp [Value.ownBlock] at hg; omega)
  · exact own_blk (g_own h.pv hd) fun g hg => oth g (by simp [Value.ownBlock] at hg; omega)
  · have := ((g_own h.ow hd).stored i (.int .i64 x)).1
    rw [ints_set, tab_set] at this
    exact this
  · exact own_blk (g_own h.ls hd) fun g hg => oth g (by simp [Value.ownBlock] at hg; omega)
  · exact own_blk (g_own h.fr hd) fun g hg => oth g (by simp [Value.ownBlock] at hg; omega)
  · exact own_blk (g_own h.gn hd) fun g hg => oth g (by simp [Value.ownBlock] at hg; omega)
  · exact Or.inl rfl
theorem S6.set_ls {w wr : World} {bs M : Nat} {e : Option Addr} {n ce cap PU PV OW LS FR GN : Nat} {u v o ls fr : Hu.Fn} {gn : Nat → Bool} (h : S6 w wr bs M e n ce cap PU PV OW LS FR GN u v o ls fr gn) {i : Nat} (x : Int) (d : Nat) : S6 w ((wr.drewN d).setCell ⟨LS, i, none⟩ (.int .i64 x)) bs M e n ce cap PU PV OW LS FR GN (u) (v) (o) (Hu.upd ls i x) (fr) (gn) := by
  have nd := h.nd
  simp only [List.nodup_cons, List.mem_cons, List.not_mem_nil, or_false, not_or, List.nodup_nil, and_true, not_false_eq_true] at nd
  have hd := below_drewN (Below.refl wr.heap.size wr) d
  have oth : ∀ g, g ≠ LS → ((wr.drewN d).setCell ⟨LS, i, none⟩ (.int .i64 x)).heap[g]? = (wr.drewN d).heap[g]? := fun g hg => Below.heap_setCell _ _ _ _ hg
  have cel : ∀ k vv, wr.cell? ⟨M, k, none⟩ = some vv → ((wr.drewN d).setCell ⟨LS, i, none⟩ (.int .i64 x)).cell? ⟨M, k, none⟩ = some vv := fun k vv hv => (World.cell?_of_block (w := wr.drewN d) (a := ⟨M, k, none⟩) (oth M (by omega))).trans hv
  refine ⟨cel _ _ h.m0, cel _ _ h.m1, cel _ _ h.m2, cel _ _ h.m3, ?_, ?_, ?_, ?_, ?_, ?_, h.nd, (h.off.below hd h.off.size).set _ ?_, h.ml⟩
  · exact own_blk (g_own h.pu hd) fun g hg => oth g (by simp [Value.ownBlock] at hg; omega)
  · exact own_blk (g_own h.pv hd) fun g hg => oth g (by simp [Value.ownBlock] at hg; omega)
  · exact own_blk (g_own h.ow hd) fun g hg => oth g (by simp [Value.ownBlock] at hg; omega)
  · have := ((g_own h.ls hd).stored i (.int .i64 x)).1
    rw [ints_set, tab_set] at this
    exact this
  · exact own_blk (g_own h.fr hd) fun g hg => oth g (by simp [Value.ownBlock] at hg; omega)
  · exact own_blk (g_own h.gn hd) fun g hg => oth g (by simp [Value.ownBlock] at hg; omega)
  · exact Or.inr (Or.inr (Or.inr (h.ls.lt LS rfl).1))
theorem S6.set_fr {w wr : World} {bs M : Nat} {e : Option Addr} {n ce cap PU PV OW LS FR GN : Nat} {u v o ls fr : Hu.Fn} {gn : Nat → Bool} (h : S6 w wr bs M e n ce cap PU PV OW LS FR GN u v o ls fr gn) {i : Nat} (x : Int) (d : Nat) : S6 w ((wr.drewN d).setCell ⟨FR, i, none⟩ (.int .i64 x)) bs M e n ce cap PU PV OW LS FR GN (u) (v) (o) (ls) (Hu.upd fr i x) (gn) := by
  have nd := h.nd
  simp only [List.nodup_cons, List.mem_cons, List.not_mem_nil, or_false, not_or, List.nodup_nil, and_true, not_false_eq_true] at nd
  have hd := below_drewN (Below.refl wr.heap.size wr) d
  have oth : ∀ g, g ≠ FR → ((wr.drewN d).setCell ⟨FR, i, none⟩ (.int .i64 x)).heap[g]? = (wr.drewN d).heap[g]? := fun g hg => Below.heap_setCell _ _ _ _ hg
  have cel : ∀ k vv, wr.cell? ⟨M, k, none⟩ = some vv → ((wr.drewN d).setCell ⟨FR, i, none⟩ (.int .i64 x)).cell? ⟨M, k, none⟩ = some vv := fun k vv hv => (World.cell?_of_block (w := wr.drewN d) (a := ⟨M, k, none⟩) (oth M (by omega))).trans hv
  refine ⟨cel _ _ h.m0, cel _ _ h.m1, cel _ _ h.m2, cel _ _ h.m3, ?_, ?_, ?_, ?_, ?_, ?_, h.nd, (h.off.below hd h.off.size).set _ ?_, h.ml⟩
  · exact own_blk (g_own h.pu hd) fun g hg => oth g (by simp [Value.ownBlock] at hg; omega)
  · exact own_blk (g_own h.pv hd) fun g hg => oth g (by simp [Value.ownBlock] at hg; omega)
  · exact own_blk (g_own h.ow hd) fun g hg => oth g (by simp [Value.ownBlock] at hg; omega)
  · exact own_blk (g_own h.ls hd) fun g hg => oth g (by simp [Value.ownBlock] at hg; omega)
  · have := ((g_own h.fr hd).stored i (.int .i64 x)).1
    rw [ints_set, tab_set] at this
    exact this
  · exact own_blk (g_own h.gn hd) fun g hg => oth g (by simp [Value.ownBlock] at hg; omega)
  · exact Or.inr (Or.inr (Or.inr (h.fr.lt FR rfl).1))
theorem S6.set_gn {w wr : World} {bs M : Nat} {e : Option Addr} {n ce cap PU PV OW LS FR GN : Nat} {u v o ls fr : Hu.Fn} {gn : Nat → Bool} (h : S6 w wr bs M e n ce cap PU PV OW LS FR GN u v o ls fr gn) {i : Nat} (x : Bool) (d : Nat) : S6 w ((wr.drewN d).setCell ⟨GN, i, none⟩ (.bool x)) bs M e n ce cap PU PV OW LS FR GN (u) (v) (o) (ls) (fr) (updB gn i x) := by
  have nd := h.nd
  simp only [List.nodup_cons, List.mem_cons, List.not_mem_nil, or_false, not_or, List.nodup_nil, and_true, not_false_eq_true] at nd
  have hd := below_drewN (Below.refl wr.heap.size wr) d
  have oth : ∀ g, g ≠ GN → ((wr.drewN d).setCell ⟨GN, i, none⟩ (.bool x)).heap[g]? = (wr.drewN d).heap[g]? := fun g hg => Below.heap_setCell _ _ _ _ hg
  have cel : ∀ k vv, wr.cell? ⟨M, k, none⟩ = some vv → ((wr.drewN d).setCell ⟨GN, i, none⟩ (.bool x)).cell? ⟨M, k, none⟩ = some vv := fun k vv hv => (World.cell?_of_block (w := wr.drewN d) (a := ⟨M, k, none⟩) (oth M (by omega))).trans hv
  refine ⟨cel _ _ h.m0, cel _ _ h.m1, cel _ _ h.m2, cel _ _ h.m3, ?_, ?_, ?_, ?_, ?_, ?_, h.nd, (h.off.below hd h.off.size).set _ ?_, h.ml⟩
  · exact own_blk (g_own h.pu hd) fun g hg => oth g (by simp [Value.ownBlock] at hg; omega)
  · exact own_blk (g_own h.pv hd) fun g hg => oth g (by simp [Value.ownBlock] at hg; omega)
  · exact own_blk (g_own h.ow hd) fun g hg => oth g (by simp [Value.ownBlock] at hg; omega)
  · exact own_blk (g_own h.ls hd) fun g hg => oth g (by simp [Value.ownBlock] at hg; omega)
  · exact own_blk (g_own h.fr hd) fun g hg => oth g (by simp [Value.ownBlock] at hg; omega)
  · have := ((g_own h.gn hd).stored i (.bool x)).1
    rw [bls_set, tabB_set] at this
    exact this
  · exact Or.inr (Or.inr (Or.inr (h.gn.lt GN rfl).1))
theorem S6.c_pu {w wr : World} {bs M : Nat} {e : Option Addr} {n ce cap PU PV OW LS FR GN : Nat} {u v o ls fr : Hu.Fn} {gn : Nat → Bool} (h : S6 w wr bs M e n ce cap PU PV OW LS FR GN u v o ls fr gn) {i : Nat} (hi : i < n) : wr.cell? ⟨PU, i, none⟩ = some (.int .i64 (u i)) := by rw [h.pu.cellAt i (by omega), ints_get _ i (by rw [Hu.tab_len]; exact hi), Hu.tab_get _ hi]
theorem S6.z_pu {w wr : World} {bs M : Nat} {e : Option Addr} {n ce cap PU PV OW LS FR GN : Nat} {u v o ls fr : Hu.Fn} {gn : Nat → Bool} (h : S6 w wr bs M e n ce cap PU PV OW LS FR GN u v o ls fr gn) (i : Nat) : wr.frozen? ⟨PU, i, none⟩ = false := h.pu.frozenAt i
theorem S6.c_pv {w wr : World} {bs M : Nat} {e : Option Addr} {n ce cap PU PV OW LS FR GN : Nat} {u v o ls fr : Hu.Fn} {gn : Nat → Bool} (h : S6 w wr bs M e n ce cap PU PV OW LS FR GN u v o ls fr gn) {i : Nat} (hi : i < n) : wr.cell? ⟨PV, i, none⟩ = some (.int .i64 (v i)) := by rw [h.pv.cellAt i (by omega), ints_get _ i (by rw [Hu.tab_len]; exact hi), Hu.tab_get _ hi]
theorem S6.z_pv {w wr : World} {bs M : Nat} {e : Option Addr} {n ce cap PU PV OW LS FR GN : Nat} {u v o ls fr : Hu.Fn} {gn : Nat → Bool} (h : S6 w wr bs M e n ce cap PU PV OW LS FR GN u v o ls fr gn) (i : Nat) : wr.frozen? ⟨PV, i, none⟩ = false := h.pv.frozenAt i
theorem S6.c_ow {w wr : World} {bs M : Nat} {e : Option Addr} {n ce cap PU PV OW LS FR GN : Nat} {u v o ls fr : Hu.Fn} {gn : Nat → Bool} (h : S6 w wr bs M e n ce cap PU PV OW LS FR GN u v o ls fr gn) {i : Nat} (hi : i < n) : wr.cell? ⟨OW, i, none⟩ = some (.int .i64 (o i)) := by rw [h.ow.cellAt i (by omega), ints_get _ i (by rw [Hu.tab_len]; exact hi), Hu.tab_get _ hi]
theorem S6.z_ow {w wr : World} {bs M : Nat} {e : Option Addr} {n ce cap PU PV OW LS FR GN : Nat} {u v o ls fr : Hu.Fn} {gn : Nat → Bool} (h : S6 w wr bs M e n ce cap PU PV OW LS FR GN u v o ls fr gn) (i : Nat) : wr.frozen? ⟨OW, i, none⟩ = false := h.ow.frozenAt i
theorem S6.c_ls {w wr : World} {bs M : Nat} {e : Option Addr} {n ce cap PU PV OW LS FR GN : Nat} {u v o ls fr : Hu.Fn} {gn : Nat → Bool} (h : S6 w wr bs M e n ce cap PU PV OW LS FR GN u v o ls fr gn) {i : Nat} (hi : i < n) : wr.cell? ⟨LS, i, none⟩ = some (.int .i64 (ls i)) := by rw [h.ls.cellAt i (by omega), ints_get _ i (by rw [Hu.tab_len]; exact hi), Hu.tab_get _ hi]
theorem S6.z_ls {w wr : World} {bs M : Nat} {e : Option Addr} {n ce cap PU PV OW LS FR GN : Nat} {u v o ls fr : Hu.Fn} {gn : Nat → Bool} (h : S6 w wr bs M e n ce cap PU PV OW LS FR GN u v o ls fr gn) (i : Nat) : wr.frozen? ⟨LS, i, none⟩ = false := h.ls.frozenAt i
theorem S6.c_fr {w wr : World} {bs M : Nat} {e : Option Addr} {n ce cap PU PV OW LS FR GN : Nat} {u v o ls fr : Hu.Fn} {gn : Nat → Bool} (h : S6 w wr bs M e n ce cap PU PV OW LS FR GN u v o ls fr gn) {i : Nat} (hi : i < n) : wr.cell? ⟨FR, i, none⟩ = some (.int .i64 (fr i)) := by rw [h.fr.cellAt i (by omega), ints_get _ i (by rw [Hu.tab_len]; exact hi), Hu.tab_get _ hi]
theorem S6.z_fr {w wr : World} {bs M : Nat} {e : Option Addr} {n ce cap PU PV OW LS FR GN : Nat} {u v o ls fr : Hu.Fn} {gn : Nat → Bool} (h : S6 w wr bs M e n ce cap PU PV OW LS FR GN u v o ls fr gn) (i : Nat) : wr.frozen? ⟨FR, i, none⟩ = false := h.fr.frozenAt i
theorem S6.c_gn {w wr : World} {bs M : Nat} {e : Option Addr} {n ce cap PU PV OW LS FR GN : Nat} {u v o ls fr : Hu.Fn} {gn : Nat → Bool} (h : S6 w wr bs M e n ce cap PU PV OW LS FR GN u v o ls fr gn) {i : Nat} (hi : i < n) : wr.cell? ⟨GN, i, none⟩ = some (.bool (gn i)) := by rw [h.gn.cellAt i (by omega), bls_get _ i (by rw [tabB_len]; exact hi) false, tabB_get _ hi]
theorem S6.z_gn {w wr : World} {bs M : Nat} {e : Option Addr} {n ce cap PU PV OW LS FR GN : Nat} {u v o ls fr : Hu.Fn} {gn : Nat → Bool} (h : S6 w wr bs M e n ce cap PU PV OW LS FR GN u v o ls fr gn) (i : Nat) : wr.frozen? ⟨GN, i, none⟩ = false := h.gn.frozenAt i
theorem S6.as {w wr : World} {bs M : Nat} {e : Option Addr} {n ce cap PU PV OW LS FR GN : Nat} {u v o ls fr u' v' o' ls' fr' : Hu.Fn} {gn gn' : Nat → Bool} (h : S6 w wr bs M e n ce cap PU PV OW LS FR GN u v o ls fr gn) (hu : ∀ i, i < n → u i = u' i) (hv : ∀ i, i < n → v i = v' i) (ho : ∀ i, i < n → o i = o' i) (hl : ∀ i, i < n → ls i = ls' i) (hf : ∀ i, i < n → fr i = fr' i) (hg : ∀ i, i < n → gn i = gn' i) : S6 w wr bs M e n ce cap PU PV OW LS FR GN u' v' o' ls' fr' gn' := by
  refine ⟨h.m0, h.m1, h.m2, h.m3, ?_, ?_, ?_, ?_, ?_, ?_, h.nd, h.off, h.ml⟩
  · rw [← tab_congr hu]; exact h.pu
  · rw [← tab_congr hv]; exact h.pv
  · rw [← tab_congr ho]; exact h.ow
  · rw [← tab_congr hl]; exact h.ls
  · rw [← tab_congr hf]; exact h.fr
  · rw [← tabB_congr hg]; exact h.gn
end Go.Proofs.Ytkebaklmkidfoaa
namespace Go.Proofs.Ytkebaklmkidfoaa
open Go.RowKit

set_option maxRecDepth 20000 in
set_option maxHeartbeats 8000000 in
theorem al_any {e : Option Addr} {n ce FT PU PV L : Nat} {C : List (List Int)} {T : Hu.Tri} {w0 w : World} (hg : Hu.costB C = true) (hl : C.length = n) (hL : L < n) (hT : Hu.Ou C n L T) (hG : Hu.Good C n) (hc : CRow w0 e C) (hb0 : Below w0.heap.size w0 w)
    (n1 : FT ≠ PU) (n2 : FT ≠ PV) (n3 : PU ≠ PV) (oft : w.ownsRow w0.heap.size 3 1 (.slice (some ⟨FT, 0, none⟩) n n) n (ints (Hu.fitR n T.o L))) (opu : w.ownsRow w0.heap.size 3 1 (.slice (some ⟨PU, 0, none⟩) n n) n (ints (Hu.tab n T.u))) (opv : w.ownsRow w0.heap.size 3 1 (.slice (some ⟨PV, 0, none⟩) n n) n (ints (Hu.tab n T.v))) :
    Calls Try.prog 27 #[.agg (fv e n ce FT PU PV), .int .i64 (L : Int)] w fun e w' => e = .returned (.tuple #[]) ∧ w'.ownsRow w0.heap.size 3 1 (.slice (some ⟨FT, 0, none⟩) n n) n (ints (Hu.fitR n (Hu.seek C n L T).o (L + 1))) ∧ w'.ownsRow w0.heap.size 3 1 (.slice (some ⟨PU, 0, none⟩) n n) n (ints (Hu.tab n (Hu.seek C n L T).u)) ∧ w'.ownsRow w0.heap.size 3 1 (.slice (some ⟨PV, 0, none⟩) n n) n (ints (Hu.tab n (Hu.seek C n L T).v)) ∧ Off3 w w' FT PU PV := by
  have gl := Hu.costB_len hg
  rw [hl] at gl
  obtain ⟨n1', n10⟩ := gl
  have bnA := below_new w (.cells (fv e n ce FT PU PV) 52)
  have HAL : Hid (AL w0 w (w.alloc (.cells (fv e n ce FT PU PV) 52)) e n ce FT PU PV C (Hu.fitR n T.o L) (Hu.tab n T.u) (Hu.tab n T.v)) := hide
    ⟨hc, hb0, (Off3.refl w FT PU PV).below bnA (Nat.le_refl _), by simp, by simp [fv, go_sem], by simp [fv, go_sem], by simp [fv, go_sem], by simp [fv, go_sem], g_own oft bnA, g_own opu bnA, g_own opv bnA, n1, n2, n3, (oft.lt FT rfl).2, (opu.lt PU rfl).2, (opv.lt PV rfl).2⟩
  have hsW : (w.alloc (.cells (fv e n ce FT PU PV) 52)).heap.size = w.heap.size + 1 := World.size_alloc _ _
  obtain ⟨W1, hW1⟩ : ∃ W1, W1 = w.alloc (.cells (fv e n ce FT PU PV) 52) := ⟨_, rfl⟩
  rw [← hW1] at HAL hsW
  have HW1 := hide hW1.symm
  have hf0 := HAL.out.f0
  have HG := hide hg
  have HLn := hide hl
  have HT := hide hT
  have HGd := hide hG
  generalize fv e n ce FT PU PV = arr at *
  clear bnA hc hb0 n1 n2 n3 oft opu opv hg hl hT hG hW1
  go_enter Try.func27, Try.ntmps27
  go_upto_region 1 with fail
  rw [HW1.out]
  clear HW1
  go_wp2_with fail
  refine (ns_any (n := n) n10).mono ?_
  rintro e2 w2 ⟨v, rfl, hb2, ov⟩
  rw [hsW] at hb2 ov
  have HAL2 := hide (HAL.out.blw hb2 (by omega))
  clear HAL hf0
  obtain ⟨g2, c2, rfl⟩ : ∃ g2 c2, v = .slice (some ⟨g2, 0, none⟩) n c2 := by
    rcases ov.2 with ⟨h, _⟩ | ⟨g, cap, cur, hv, _⟩
    · exact absurd h (by omega)
    · exact ⟨g, cap, hv⟩
  obtain ⟨W3, hW3⟩ : ∃ W3, W3 = w2.alloc (.cells #[.slice none 0 0, .slice none 0 0, .slice none 0 0, .int .i64 0, .int .i64 0, .int .i64 0, .int .i64 0, .int .i64 0, .int .i64 0, .int .i64 0, .int .i64 0, .int .i64 0, .int .i64 0, .int .i64 0, .int .i64 0, .int .i64 0, .int .i64 0, .int .i64 0, .int .i64 0, .int .i64 0, .int .i64 0, .int .i64 0, .int .i64 0] 79) := ⟨_, rfl⟩
  have HZ := hide (zsl_new w2 79)
  have bn3 := below_new w2 (.cells #[.slice none 0 0, .slice none 0 0, .slice none 0 0, .int .i64 0, .int .i64 0, .int .i64 0, .int .i64 0, .int .i64 0, .int .i64 0, .int .i64 0, .int .i64 0, .int .i64 0, .int .i64 0, .int .i64 0, .int .i64 0, .int .i64 0, .int .i64 0, .int .i64 0, .int .i64 0, .int .i64 0, .int .i64 0, .int .i64 0, .int .i64 0] 79)
  have og := ov.lt g2 rfl
  rw [← hW3] at HZ bn3
  have HZ' : Hid (SV (w2.alloc (.cells #[.slice none 0 0, .slice none 0 0, .slice none 0 0, .int .i64 0, .int .i64 0, .int .i64 0, .int .i64 0, .int .i64 0, .int .i64 0, .int .i64 0, .int .i64 0, .int .i64 0, .int .i64 0, .int .i64 0, .int .i64 0, .int .i64 0, .int .i64 0, .int .i64 0, .int .i64 0, .int .i64 0, .int .i64 0, .int .i64 0, .int .i64 0] 79)) w2.heap.size (.slice none 0 0) (.slice none 0 0) (.slice none 0 0) z10 z10) := hide (by rw [← hW3]; exact HZ.out)
  have HAL3 := hide (HAL2.out.blw bn3 (by omega))
  have HOV := hide (g_own ov bn3)
  have hs3 : w2.heap.size < W3.heap.size := HZ.out.lt
  have HW3 := hide hW3
  clear HAL2 ov bn3 hb2 HZ hW3
  have lmx : (mxs n).length = 10 := Hu.tab_len _ _
  have lz0 : z10.length = 10 := rfl
  go_upto_region 2 with (first | (refine ws_store rfl _ _ rfl rfl rfl HZ' lmx lz0 rfl rfl rfl ?_; intro w4 A4 T4) | fail)
  rw [← HW3.out] at T4
  have hB3 : w.heap.size + 1 + 2 < w2.heap.size := by omega
  have HAL4 := hide (HAL3.out.blw (T4.2.1 _ (Nat.le_refl _)) (by omega))
  have HS4 : Hid (Sr w4 (w.heap.size + 1 + 2) w2.heap.size (.slice none 0 0) (.slice none 0 0) (.slice (some ⟨g2, 0, none⟩) (Hu.leftN n (Hu.start T.u T.v).gn).length c2) (Hu.cast (Hu.loadsW T.o L [])) (Hu.cast ([] : List Nat).reverse) (Hu.cast (Hu.leftN n (Hu.start T.u T.v).gn)) (mxs n) z10) := hide (by
    have e1 : Hu.leftN n (Hu.start T.u T.v).gn = List.range n := by simp [Hu.leftN, Hu.start]
    rw [e1, List.length_range]
    refine ⟨A4, World.ownsRow_nil _ _ _ _, World.ownsRow_nil _ _ _ _, ?_, by omega, by simp [Value.ownBlock], by simp [Value.ownBlock], by simp [Value.ownBlock]; omega, fun g hg => by simp [Value.ownBlock] at hg, fun g hg => by simp [Value.ownBlock] at hg, fun g hg => by simp [Value.ownBlock] at hg⟩
    rw [Hu.cast_len, List.length_range]
    exact own_blk HOV.out fun g hg => T4.2.2 g (by simp [Value.ownBlock] at hg; omega))
  have hS4 : w2.heap.size < w4.heap.size := A4.lt
  have HI0 := hide (Hu.In.start (L := L) HT.out.pr)
  clear HAL3 HOV HW3 A4 T4 HZ' og hs3 hsW lmx lz0
  generalize w2.heap.size = B at *
  clear w2 W3 W1
  go_wp2_with fail
  go_loopg [5, 6] n (fun gk s5 s6 wr => ∃ (S : Hu.Sk) (g : List Nat) (xs ys : List Int) (v0 v1 : Value) (M : Nat), s5 = .int .i64 S.la ∧ s6 = .int .i64 (Hu.nx T.o L S.la) ∧ Hid (gk = n - g.length) ∧ Hid (M = (Hu.leftN n S.gn).length) ∧ Hid (Hu.In C n T.o L S g) ∧ Hid (Hu.run C n T.o L n (Hu.start T.u T.v) = Hu.run C n T.o L gk S) ∧ Hid (Hu.LsR n T.o L S g xs ys) ∧ Hid (AL w0 w wr e n ce FT PU PV C (Hu.fitR n T.o L) (Hu.tab n S.u) (Hu.tab n S.v)) ∧ Hid (Sr wr (w.heap.size + 1 + 2) B v0 v1 (.slice (some ⟨g2, 0, none⟩) M c2) (Hu.cast (Hu.loadsW T.o L g)) (Hu.cast g.reverse) (Hu.cast (Hu.leftN n S.gn)) xs ys))
  case atStart => exact ⟨Hu.start T.u T.v, [], mxs n, z10, _, _, _, rfl, rfl, hide rfl, hide rfl, HI0, hide rfl, hide (Hu.LsR.start _ _ _ _ _ _ n10), HAL4, HS4⟩
  case round =>
    clear HAL4 HS4 HI0
    obtain ⟨S, g, xs, ys, v0, v1, M, rfl, rfl, HK, HM, HI, HR, HL, HAL, HS⟩ := hrel
    by_cases hx : 0 ≤ Hu.nx T.o L S.la
    · obtain ⟨d, p, hW⟩ := Hu.way_step HGd.out HT.out.ow hL HI.out hx HL.out n10
      have HP1 := hide (HI.out.bd HGd.out HT.out.ow hL)
      have elsl : Hu.cast (Hu.loadsW T.o L g) ++ [((Hu.ld T.o L S.la : Nat) : Int)] = Hu.cast (Hu.loadsW T.o L (d :: g)) := by
        rw [HI.out.la]; simp [Hu.loadsW, Hu.cast]
      have hll : (Hu.loadsW T.o L (d :: g)).length = g.length + 1 := Hu.loadsW_len _ _ _
      have hlen := hW.inn.len
      simp only [List.length_cons] at hlen
      have enx := Hu.ld_nx hx
      have hir := hW.lr
      have HE := hide elsl
      have HWS := hide hW
      have hpl := hW.pl
      rw [← HM.out] at hpl
      have hdn := hW.dn
      have HX10 : Hid ((Hu.restR C (Hu.tab n S.u) (Hu.tab n S.v) (Hu.ld T.o L S.la)).length = 10) := hide (Hu.tab_len _ _)
      have HXL : Hid ((Hu.seeX (Hu.leftN n S.gn) (Hu.restR C (Hu.tab n S.u) (Hu.tab n S.v) (Hu.ld T.o L S.la)) xs).length = 10) := hide (Hu.tab_len _ _)
      have HYL : Hid ((Hu.seeY (Hu.leftN n S.gn) (Hu.restR C (Hu.tab n S.u) (Hu.tab n S.v) (Hu.ld T.o L S.la)) xs ys (Hu.ld T.o L S.la)).length = 10) := hide (Hu.tab_len _ _)
      have HRO := hide fun (W : World) (h1 : CRow W e C) (h2 : ARow W (some ⟨PU, 0, none⟩) (Hu.tab n S.u)) (h3 : ARow W (some ⟨PV, 0, none⟩) (Hu.tab n S.v)) => ro9_any (ce := ce) (FT := FT) HG.out HLn.out (Hu.tab_len n S.u) (Hu.tab_len n S.v) hir (Hu.tab_all fun i hi => by have := HP1.out.1 i hi; omega) (Hu.tab_all fun i hi => by have := HP1.out.2 i hi; omega) h1 h2 h3
      have hRun : Hu.run C n T.o L (n - g.length) S = Hu.run C n T.o L (n - g.length - 1) (Hu.step C n T.o L S) := by
        have : n - g.length = (n - g.length - 1) + 1 := by omega
        rw [this, Hu.run_on hx]; rfl
      have HRn := hide (HR.out.trans ((congrArg (fun k => Hu.run C n T.o L k S) HK.out).trans hRun))
      have HND := hide (Hu.left_nodup n S.gn)
      have H10 : Hid (∀ x ∈ Hu.leftN n S.gn, x < 10) := hide fun x hx => by have := (Hu.left_mem.1 hx).1; omega
      have ML : M ≤ 10 := by
        have := HND.out.length_le_of_subset (l₂ := List.range 10) (fun x hx => List.mem_range.2 (H10.out x hx))
        rw [← HM.out] at this; simpa using this
      have hgl : g.length ≤ 10 := by omega
      obtain ⟨M', rfl⟩ : ∃ M', M = M' + 1 := ⟨M - 1, by omega⟩
      have HSEE := hide fun (W : World) (hb : w.heap.size + 1 + 2 ≤ W.heap.size) (h : Sr W (w.heap.size + 1 + 2) B v0 v1 (.slice (some ⟨g2, 0, none⟩) (M' + 1) c2) (Hu.cast (Hu.loadsW T.o L g)) (Hu.cast g.reverse) (Hu.cast (Hu.leftN n S.gn)) xs ys) => see_any (i := Hu.ld T.o L S.la) HX10.out HM.out.symm HND.out H10.out hb (by rw [Hu.cast_len, Hu.loadsW_len]; omega) h
      rw [HE.out] at HSEE
      have HNR := hide fun (W : World) (u0 u1 : Value) (h0 : u0.oneCell' = true) (h1 : u1.oneCell' = true) (ha : ARow W (some ⟨g2, 0, none⟩) (Hu.cast (Hu.leftN n S.gn))) => nr_any (c2 := c2) HXL.out HYL.out h0 h1 HM.out.symm (by omega) (by omega) H10.out ha HWS.out.best
      have HSH := hide fun (W : World) (a0 a1 : Option Addr) (c0 c1 : Nat) (hne : PU ≠ PV) (ou : W.ownsRow w0.heap.size 3 1 (.slice (some ⟨PU, 0, none⟩) n n) n (ints (Hu.tab n S.u))) (ov : W.ownsRow w0.heap.size 3 1 (.slice (some ⟨PV, 0, none⟩) n n) n (ints (Hu.tab n S.v))) (r0 : ARow W a0 (Hu.cast (Hu.loadsW T.o L (d :: g)))) (r1 : ARow W a1 (Hu.cast g.reverse)) (d0 : ∀ b o, a0 = some ⟨b, o, none⟩ → b ≠ PU ∧ b ≠ PV) (d1 : ∀ b o, a1 = some ⟨b, o, none⟩ → b ≠ PU ∧ b ≠ PV) =>
        sh_any (e := e) (ce := ce) (FT := FT) (c0 := c0) (c1 := c1) (a2 := some ⟨g2, 0, none⟩) (c2 := c2) (N2 := M' + 1) HXL.out HYL.out (Hu.tab_len n S.u) (Hu.tab_len n S.v) hll (show g.reverse.length = g.length from List.length_reverse) (by omega) (by omega) HWS.out.lm (fun b hb => HI.out.gb b (by simpa using hb)) HWS.out.yb.1 HWS.out.yb.2 (Hu.tab_all fun i hi => by have := HP1.out.1 i hi; omega) (Hu.tab_all fun i hi => by have := HP1.out.2 i hi; omega) hne ou ov r0 r1 d0 d1
      rw [HWS.out.lsu, HWS.out.lsv] at HSH
      have HGO := hide fun (W : World) (u0 : Value) (hb : w.heap.size + 1 + 2 ≤ W.heap.size) (h : Sr W (w.heap.size + 1 + 2) B u0 v1 (.slice (some ⟨g2, 0, none⟩) (M' + 1) c2) (Hu.cast (Hu.loadsW T.o L (d :: g))) (Hu.cast g.reverse) (Hu.cast (Hu.leftN n S.gn)) (Hu.seeX (Hu.leftN n S.gn) (Hu.restR C (Hu.tab n S.u) (Hu.tab n S.v) (Hu.ld T.o L S.la)) xs) (Hu.seeY (Hu.leftN n S.gn) (Hu.restR C (Hu.tab n S.u) (Hu.tab n S.v) (Hu.ld T.o L S.la)) xs ys (Hu.ld T.o L S.la))) => go9_any (p := p) HM.out.symm (by omega) HND.out H10.out HWS.out.bd hb (by rw [Hu.cast_len, List.length_reverse]; omega) h
      have erev : Hu.cast g.reverse ++ [(d : Int)] = Hu.cast (d :: g).reverse := by simp [Hu.cast]
      rw [HWS.out.pd, erev, ← HWS.out.lfe] at HGO
      have HIX := hide fun (W : World) (ha : ARow W (some ⟨FT, 0, none⟩) (Hu.fitR n T.o L)) => ix9_any (c := n) (x := (d : Int)) (r := T.o d) (Hu.fitR_len n T.o L) (by omega) ha (by
        rcases Hu.fit_index HT.out.ow (Nat.le_of_lt hL) hdn with ⟨h1, h2⟩ | ⟨i, h1, h2, h3, h4⟩
        · exact Or.inl ⟨h1, h2⟩
        · exact Or.inr ⟨i, h1, h2, h3, h4⟩)
      have HIN := hide HWS.out.inn
      have HLS := hide HWS.out.lsr
      have hla : (Hu.step C n T.o L S).la = (d : Int) := HIN.out.la
      have hnx : Hu.nx T.o L (Hu.step C n T.o L S).la = T.o d := by
        rw [hla, Hu.nx, if_neg (by omega)]; simp
      have HMM : Hid (M' = (Hu.leftN n (Hu.step C n T.o L S).gn).length) := hide (by rw [HWS.out.lfe, List.length_eraseIdx_of_lt HWS.out.pl, ← HM.out]; rfl)
      rw [← hnx] at HIX
      rw [enx]
      have f0 := HAL.out.f0
      have f1 := HAL.out.f1
      have f2 := HAL.out.f2
      have f3 := HAL.out.f3
      have hFl := HAL.out.lt
      have hne : (((Hu.ld T.o L S.la : Nat) : Int) != -1) = true := by simp
      have d0' : (0 : Int) ≤ (d : Int) := by omega
      have d1' : (d : Int) < 10 := by omega
      have hBS := HS.out.sv.lt
      clear HR HP1 elsl hW hx enx HI HE HWS HX10 hll H10 HND erev hpl hRun hir
      generalize Hu.restR C (Hu.tab n S.u) (Hu.tab n S.v) (Hu.ld T.o L S.la) = rs at *
      generalize Hu.seeX (Hu.leftN n S.gn) rs xs = X at *
      generalize Hu.seeY (Hu.leftN n S.gn) rs xs ys ((Hu.ld T.o L S.la : Nat) : Int) = Y at *
      generalize Hu.ld T.o L S.la = I at *
      go_wp2_with fail
      refine (HRO.out _ HAL.out.c (own_arow (Hu.tab_len _ _) HAL.out.pu) (own_arow (Hu.tab_len _ _) HAL.out.pv)).mono ?_
      rintro e2 w2 ⟨rfl, hb2⟩
      have HAL2 := hide (HAL.out.blw hb2 (by omega))
      have HS2 := hide (HS.out.below hb2)
      have hz2 := hb2.size
      clear HAL HS HRO f0 f1 f2 f3 hb2
      go_wp2_with fail
      refine (HSEE.out _ (by omega) HS2.out).mono ?_
      rintro e3 w3 ⟨rfl, ⟨v0', hs3⟩, hb3⟩
      have HAL3 := hide (HAL2.out.blw hb3 (by omega))
      have HS3 := hide hs3
      have HSV3 := hide hs3.sv
      have hz3 := hb3.size
      clear HAL2 HS2 HSEE hs3 hb3
      go_wp2_with (first | (refine ws_load rfl _ rfl rfl HSV3 ?_) | fail)
      refine (HNR.out _ _ _ (own_one HS3.out.o0) (own_one HS3.out.o1) (own_arow rfl HS3.out.o2)).mono ?_
      rintro e4 w4 ⟨rfl, hb4⟩
      have HAL4 := hide (HAL3.out.blw hb4 (by omega))
      have HS4 := hide (HS3.out.below hb4)
      have hz4 := hb4.size
      clear HAL3 HS3 HNR hb4 HSV3
      obtain ⟨a0, c0, rfl⟩ := own_form HS4.out.o0
      obtain ⟨a1, c1, rfl⟩ := own_form HS4.out.o1
      have el0 : (Hu.cast (Hu.loadsW T.o L (d :: g))).length = g.length + 1 := by rw [Hu.cast_len, Hu.loadsW_len]; rfl
      have el1 : (Hu.cast g.reverse).length = g.length := by rw [Hu.cast_len, List.length_reverse]
      rw [el0] at HS4
      rw [el1] at HS4 HGO
      go_wp2_with fail
      refine wp_region_noPanic ?_
      refine wp_region_held_drew (S := fun w' => SV w' B (.slice a0 (g.length + 1) c0) (.slice a1 g.length c1) (.slice (some ⟨g2, 0, none⟩) (M' + 1) c2) X Y ∧ w'.cell? ⟨w.heap.size, 0, none⟩ = some (.slice e n ce) ∧ w'.cell? ⟨w.heap.size, 1, none⟩ = some (.slice (some ⟨FT, 0, none⟩) n n) ∧ w'.cell? ⟨w.heap.size, 2, none⟩ = some (.slice (some ⟨PU, 0, none⟩) n n) ∧ w'.cell? ⟨w.heap.size, 3, none⟩ = some (.slice (some ⟨PV, 0, none⟩) n n)) (by kernel_rfl) ⟨HS4.out.sv.below (Below.refl _ _).drew, HAL4.out.f0, HAL4.out.f1, HAL4.out.f2, HAL4.out.f3⟩ (fun hHeld => ?_)
      refine wpAnyH_take (i := 0) (oi := ⟨some 25, _, _, _, _, none⟩) (v := .agg (fv e n ce FT PU PV)) rfl (by kernel_rfl) (by kernel_rfl) (by kernel_rfl) (fun _ _ _ h => h) (Or.inl ⟨by rfl, fun w' hSw => by obtain ⟨_, x0, x1, x2, x3⟩ := hSw; unfold fv; go_simp⟩) hHeld ?_
      simp only [Act.put, List.setIfInBounds_toArray, List.set_cons_zero, List.set_cons_succ]
      refine wpAnyH_take (i := 1) (oi := ⟨some 26, _, _, _, _, none⟩) (v := .agg (sl9 (.slice a0 (g.length + 1) c0) (.slice a1 g.length c1) (.slice (some ⟨g2, 0, none⟩) (M' + 1) c2) X Y).toArray) rfl (by kernel_rfl) (by kernel_rfl) (by kernel_rfl) (fun _ _ _ h => h) (yieldsIf_load_mid (by rfl) _ _ rfl _ _ rfl (sl9 (.slice a0 (g.length + 1) c0) (.slice a1 g.length c1) (.slice (some ⟨g2, 0, none⟩) (M' + 1) c2) X Y) _ (fun w' h => h.1.range) Try.underlying79 rfl (by rw [sl9_len HXL.out HYL.out]; exact infS9)) hHeld ?_
      simp only [Act.put, List.setIfInBounds_toArray, List.set_cons_zero, List.set_cons_succ]
      refine wpAnyH_take (i := 2) (oi := ⟨some 27, _, _, _, _, none⟩) (v := .int .i64 (d : Int)) rfl (by kernel_rfl) (by kernel_rfl) (by kernel_rfl) (fun _ _ _ h => h) (Or.inl ⟨by rfl, fun w' hSw => by clear hSw; go_simp⟩) hHeld ?_
      simp only [Act.put, List.setIfInBounds_toArray, List.set_cons_zero, List.set_cons_succ]
      refine wpAnyH_take (i := 3) (oi := ⟨some 28, _, _, _, _, none⟩) (v := .pointer (some ⟨B, 3, none⟩)) rfl (by kernel_rfl) (by kernel_rfl) (by kernel_rfl) (fun _ _ _ h => h) (Or.inl ⟨by rfl, fun w' hSw => by clear hSw; go_simp⟩) hHeld ?_
      simp only [Act.put, List.setIfInBounds_toArray, List.set_cons_zero, List.set_cons_succ]
      refine wpAnyH_take (i := 4) (oi := ⟨some 29, _, _, _, _, none⟩) (v := .pointer (some ⟨B, 3 + d, none⟩)) rfl (by kernel_rfl) (by kernel_rfl) (by kernel_rfl) (fun _ _ _ h => h) (Or.inl ⟨by rfl, fun w' hSw => by clear hSw; go_simp⟩) hHeld ?_
      simp only [Act.put, List.setIfInBounds_toArray, List.set_cons_zero, List.set_cons_succ]
      refine wpAnyH_take (i := 5) (oi := ⟨some 30, _, _, _, _, none⟩) (v := .int .i64 (X.getD d 0)) rfl (by kernel_rfl) (by kernel_rfl) (by kernel_rfl) (fun _ _ _ h => h) (Or.inl ⟨by rfl, fun w' hSw => by have hxx := hSw.1.x (i := d) (by omega); clear hSw; go_simp⟩) hHeld ?_
      simp only [Act.put, List.setIfInBounds_toArray, List.set_cons_zero, List.set_cons_succ]
      refine wpAnyH_ready (rs := [6]) (by kernel_rfl) (by simp) ?_
      refine AllReadyH.cons (o := ⟨some 31, _, _, _, _, none⟩) rfl (fun K hK => ?_) AllReadyH.nil
      go_simp
      have hdr : Below w4.heap.size w4 w4.drew := (Below.refl _ _).drew
      have HAL5 := hide (HAL4.out.blw hdr (by omega))
      have HS5 := hide (HS4.out.below hdr)
      have hs5 : w4.drew.heap.size = w4.heap.size := rfl
      refine (HSH.out w4.drew a0 a1 c0 c1 HAL5.out.n3 HAL5.out.pu HAL5.out.pv (own_arow rfl HS5.out.o0) (own_arow rfl HS5.out.o1) (fun b o hb => ⟨own_apart HS5.out.o0 (by have := HAL5.out.l2; omega) b o hb, own_apart HS5.out.o0 (by have := HAL5.out.l3; omega) b o hb⟩) (fun b o hb => ⟨own_apart HS5.out.o1 (by have := HAL5.out.l2; omega) b o hb, own_apart HS5.out.o1 (by have := HAL5.out.l3; omega) b o hb⟩)).mono ?_
      rintro e6 w6 ⟨rfl, hu6, hv6, hf6⟩
      have HAL6 := hide (HAL5.out.shift hf6 hu6 hv6)
      have HS6 := hide (HS5.out.off2 hf6 (by have := HAL5.out.l2; omega) (by have := HAL5.out.l3; omega))
      have hz6 := hf6.size
      clear HAL4 HS4 HAL5 HS5 HSH hu6 hv6 hf6
      refine hK.out _ _ ⟨HS6.out.sv, HAL6.out.f0, HAL6.out.f1, HAL6.out.f2, HAL6.out.f3⟩ (fun hHeld => ?_)
      clear hK K hHeld
      refine wpAnyH_done (by kernel_rfl) ?_ _
      refine NoPanic.normal ?_
      go_wp2_with fail
      refine (HGO.out _ _ (by omega) HS6.out).mono ?_
      rintro e7 w7 ⟨rfl, ⟨v1', hs7⟩, hb7⟩
      have HAL7 := hide (HAL6.out.blw hb7 (by omega))
      have HS7 := hide hs7
      clear HAL6 HS6 HGO hs7 hb7
      have f1 := HAL7.out.f1
      go_wp2_with fail
      refine (HIX.out _ (own_arow (Hu.fitR_len _ _ _) HAL7.out.ft)).mono ?_
      rintro e8 w8 ⟨rfl, rfl⟩
      go_wp2_with fail
      rw [← hla]
      go_roundg (n - g.length - 1)
      case measure => have := HK.out; omega
      case rel => exact ⟨Hu.step C n T.o L S, d :: g, _, _, _, _, _, rfl, rfl, hide (by simp; omega), HMM, HIN, HRn, HLS, HAL7, HS7⟩
    · obtain ⟨d, r, rfl⟩ : ∃ d r, g = d :: r := by
        cases g with
        | nil => rw [HI.out.la] at hx; exact absurd (by simp [Hu.nx, Hu.lastOf]) hx
        | cons d r => exact ⟨d, r, rfl⟩
      have hla : S.la = (d : Int) := HI.out.la
      have hnx : Hu.nx T.o L S.la = T.o d := by
        rw [hla, Hu.nx, if_neg (by omega)]; simp
      have hdn := HI.out.gb d List.mem_cons_self
      have ho1 : T.o d = -1 := by
        rcases HT.out.ow.is d hdn with h | h
        · exact h
        · rw [hnx] at hx; omega
      have hS : Hu.run C n T.o L n (Hu.start T.u T.v) = S := HR.out.trans (Hu.run_here (by omega))
      obtain ⟨K, hK⟩ := Hu.fit_back HGd.out hL HT.out hS HI.out (by omega) (fun b hb => HL.out.fr (by simp) b hb)
      have eu : (Hu.seek C n L T).u = S.u := by rw [Hu.seek, hS]
      have ev : (Hu.seek C n L T).v = S.v := by rw [Hu.seek, hS]
      rw [hnx, ho1, hla]
      have f0 := HAL.out.f0
      have f1 := HAL.out.f1
      have f2 := HAL.out.f2
      have f3 := HAL.out.f3
      have HSV := hide HS.out.sv
      have HGB := hide (gb_any (e := e) (ce := ce) (PU := PU) (PV := PV) n10 HS.out.sv.lx HS.out.sv.ly (own_one HS.out.o0) (own_one HS.out.o1) (own_one HS.out.o2) (Hu.fitR_len n T.o L) hK HAL.out.ft)
      clear HI HL HR HK hK hS hx HS HG HGd
      go_wp2_with (first | (refine ws_load rfl _ rfl rfl HSV ?_) | fail)
      refine HGB.out.mono ?_
      rintro e8 w8 ⟨rfl, hf8, hg8⟩
      have HR8 := hide hf8
      have HOF : Hid (Off3 w w8 FT PU PV) := hide (HAL.out.off.grown hg8)
      have HU8 : Hid (w8.ownsRow w0.heap.size 3 1 (.slice (some ⟨PU, 0, none⟩) n n) n (ints (Hu.tab n (Hu.seek C n L T).u))) := hide (by
        rw [eu]
        exact own_blk HAL.out.pu fun g hg => by simp [Value.ownBlock] at hg; subst hg; exact hg8.block _ (by have := HAL.out.l2; have := HAL.out.lt; omega) (by have := HAL.out.n1; simp; omega))
      have HV8 : Hid (w8.ownsRow w0.heap.size 3 1 (.slice (some ⟨PV, 0, none⟩) n n) n (ints (Hu.tab n (Hu.seek C n L T).v))) := hide (by
        rw [ev]
        exact own_blk HAL.out.pv fun g hg => by simp [Value.ownBlock] at hg; subst hg; exact hg8.block _ (by have := HAL.out.l3; have := HAL.out.lt; omega) (by have := HAL.out.n2; simp; omega))
      clear hf8 hg8 HAL HGB HSV
      go_wp2_with fail
      go_end0
      exact ⟨rfl, HR8.out, HU8.out, HV8.out, HOF.out⟩
end Go.Proofs.Ytkebaklmkidfoaa
namespace Go.Proofs.Ytkebaklmkidfoaa
open Go.RowKit

theorem own_low9 {w : World} {base base' e s n : Nat} {v : Value} {xs : List Value} (h : w.ownsRow base e s v n xs) (hb : base' ≤ base) : w.ownsRow base' e s v n xs := by
  refine ⟨h.1, ?_⟩
  rcases h.2 with h | ⟨g, cap, cur, hv, hbg, r⟩
  · exact Or.inl h
  · exact Or.inr ⟨g, cap, cur, hv, by omega, r⟩
theorem cm1_new (w : World) : (w.alloc (.cells #[.int .i64 (-1)] 3)).cell? ⟨w.heap.size, 0, none⟩ = some (.int .i64 (-1)) ∧ w.heap.size < (w.alloc (.cells #[.int .i64 (-1)] 3)).heap.size := ⟨by simp, by simp⟩
theorem cm1_below {w w' : World} {B : Nat} (h : w.cell? ⟨B, 0, none⟩ = some (.int .i64 (-1)) ∧ B < w.heap.size) (hb : Below w.heap.size w w') : w'.cell? ⟨B, 0, none⟩ = some (.int .i64 (-1)) ∧ B < w'.heap.size := ⟨(hb.cell (p := ⟨B, 0, none⟩) h.2).trans h.1, Nat.lt_of_lt_of_le h.2 hb.size⟩
structure Z4 (w : World) (b : Nat) : Prop where
  c0 : w.cell? ⟨b, 0, none⟩ = some (.slice none 0 0)
  c1 : w.cell? ⟨b, 1, none⟩ = some (.slice none 0 0)
  c2 : w.cell? ⟨b, 2, none⟩ = some (.slice none 0 0)
  c3 : w.cell? ⟨b, 3, none⟩ = some (.slice none 0 0)
  z0 : w.frozen? ⟨b, 0, none⟩ = false
  z1 : w.frozen? ⟨b, 1, none⟩ = false
  z2 : w.frozen? ⟨b, 2, none⟩ = false
  z3 : w.frozen? ⟨b, 3, none⟩ = false
  lt : b < w.heap.size
theorem Z4.new (w : World) (t : TypeId) : Z4 (w.alloc (.cells #[.slice none 0 0, .slice none 0 0, .slice none 0 0, .slice none 0 0] t)) w.heap.size := ⟨by simp, by simp, by simp, by simp, by simp, by simp, by simp, by simp, by simp⟩
theorem Z4.below {w w' : World} {b : Nat} (h : Z4 w b) (hb : Below w.heap.size w w') : Z4 w' b :=
  ⟨(hb.cell (p := ⟨b, 0, none⟩) h.lt).trans h.c0, (hb.cell (p := ⟨b, 1, none⟩) h.lt).trans h.c1, (hb.cell (p := ⟨b, 2, none⟩) h.lt).trans h.c2, (hb.cell (p := ⟨b, 3, none⟩) h.lt).trans h.c3, (hb.frozen (p := ⟨b, 0, none⟩) h.lt).trans h.z0, (hb.frozen (p := ⟨b, 1, none⟩) h.lt).trans h.z1, (hb.frozen (p := ⟨b, 2, none⟩) h.lt).trans h.z2, (hb.frozen (p := ⟨b, 3, none⟩) h.lt).trans h.z3, Nat.lt_of_lt_of_le h.lt hb.size⟩
/-- The fitting's variable and its three lists, apart from one another and behind w0. -/
structure CfI (w0 w : World) (FB : Nat) (e : Option Addr) (n ce FT PU PV : Nat) (ft us vs : List Int) : Prop where
  b0 : Below w0.heap.size w0 w
  f0 : w.cell? ⟨FB, 0, none⟩ = some (.slice e n ce)
  f1 : w.cell? ⟨FB, 1, none⟩ = some (.slice (some ⟨FT, 0, none⟩) n n)
  f2 : w.cell? ⟨FB, 2, none⟩ = some (.slice (some ⟨PU, 0, none⟩) n n)
  f3 : w.cell? ⟨FB, 3, none⟩ = some (.slice (some ⟨PV, 0, none⟩) n n)
  ft : w.ownsRow w0.heap.size 3 1 (.slice (some ⟨FT, 0, none⟩) n n) n (ints ft)
  pu : w.ownsRow w0.heap.size 3 1 (.slice (some ⟨PU, 0, none⟩) n n) n (ints us)
  pv : w.ownsRow w0.heap.size 3 1 (.slice (some ⟨PV, 0, none⟩) n n) n (ints vs)
  n1 : FT ≠ PU
  n2 : FT ≠ PV
  n3 : PU ≠ PV
  n4 : FB ≠ FT
  n5 : FB ≠ PU
  n6 : FB ≠ PV
  lb : FB < w.heap.size
  lo : w0.heap.size ≤ FB
theorem CfI.make {w0 w : World} {FB FT PU PV n ce : Nat} {e : Option Addr} {ft us vs : List Int} (z : Z4 w FB) (oft : w.ownsRow w0.heap.size 3 1 (.slice (some ⟨FT, 0, none⟩) n n) n (ints ft)) (opu : w.ownsRow w0.heap.size 3 1 (.slice (some ⟨PU, 0, none⟩) n n) n (ints us)) (opv : w.ownsRow w0.heap.size 3 1 (.slice (some ⟨PV, 0, none⟩) n n) n (ints vs)) (b0 : Below w0.heap.size w0 w) (n1 : FT ≠ PU) (n2 : FT ≠ PV) (n3 : PU ≠ PV) (n4 : FB ≠ FT) (n5 : FB ≠ PU) (n6 : FB ≠ PV) (lo : w0.heap.size ≤ FB) :
    CfI w0 ((((w.setCell ⟨FB, 0, none⟩ (.slice e n ce)).setCell ⟨FB, 1, none⟩ (.slice (some ⟨FT, 0, none⟩) n n)).setCell ⟨FB, 2, none⟩ (.slice (some ⟨PU, 0, none⟩) n n)).setCell ⟨FB, 3, none⟩ (.slice (some ⟨PV, 0, none⟩) n n)) FB e n ce FT PU PV ft us vs := by
  obtain ⟨c0, c1, c2, c3, z0, z1, z2, z3, lt⟩ := z
  have ob : ∀ g, g ≠ FB → ((((w.setCell ⟨FB, 0, none⟩ (.slice e n ce)).setCell ⟨FB, 1, none⟩ (.slice (some ⟨FT, 0, none⟩) n n)).setCell ⟨FB, 2, none⟩ (.slice (some ⟨PU, 0, none⟩) n n)).setCell ⟨FB, 3, none⟩ (.slice (some ⟨PV, 0, none⟩) n n)).heap[g]? = w.heap[g]? := fun g hg =>
    (Below.heap_setCell _ _ _ _ hg).trans ((Below.heap_setCell _ _ _ _ hg).trans ((Below.heap_setCell _ _ _ _ hg).trans (Below.heap_setCell _ _ _ _ hg)))
  refine ⟨(((b0.setCell (p := ⟨FB, 0, none⟩) lo _).setCell (p := ⟨FB, 1, none⟩) lo _).setCell (p := ⟨FB, 2, none⟩) lo _).setCell (p := ⟨FB, 3, none⟩) lo _, by simp [go_sem, *], by simp [go_sem, *], by simp [go_sem, *], by simp [go_sem, *], own_blk oft fun g hg => ?_, own_blk opu fun g hg => ?_, own_blk opv fun g hg => ?_, n1, n2, n3, n4, n5, n6, by simpa using lt, lo⟩
  · simp [Value.ownBlock] at hg; exact ob g (by omega)
  · simp [Value.ownBlock] at hg; exact ob g (by omega)
  · simp [Value.ownBlock] at hg; exact ob g (by omega)
/-- Behind one more load. -/
theorem CfI.more {w0 w w' : World} {FB FT PU PV n ce : Nat} {e : Option Addr} {ft us vs ft' us' vs' : List Int} (h : CfI w0 w FB e n ce FT PU PV ft us vs) (ho : Off3 w w' FT PU PV) (oft : w'.ownsRow w0.heap.size 3 1 (.slice (some ⟨FT, 0, none⟩) n n) n (ints ft')) (opu : w'.ownsRow w0.heap.size 3 1 (.slice (some ⟨PU, 0, none⟩) n n) n (ints us')) (opv : w'.ownsRow w0.heap.size 3 1 (.slice (some ⟨PV, 0, none⟩) n n) n (ints vs')) : CfI w0 w' FB e n ce FT PU PV ft' us' vs' :=
  have hb := ho.block FB h.lb h.n4 h.n5 h.n6
  ⟨ho.under h.b0 (h.ft.lt FT rfl).1 (h.pu.lt PU rfl).1 (h.pv.lt PV rfl).1, (World.cell?_of_block (w := w) (a := ⟨FB, 0, none⟩) hb).trans h.f0, (World.cell?_of_block (w := w) (a := ⟨FB, 1, none⟩) hb).trans h.f1, (World.cell?_of_block (w := w) (a := ⟨FB, 2, none⟩) hb).trans h.f2, (World.cell?_of_block (w := w) (a := ⟨FB, 3, none⟩) hb).trans h.f3, oft, opu, opv, h.n1, h.n2, h.n3, h.n4, h.n5, h.n6, Nat.lt_of_lt_of_le h.lb ho.size, h.lo⟩
/-- What comes out: three lists of their own memory. -/
structure CfO (w w' : World) (n FT PU PV : Nat) (C : List (List Int)) : Prop where
  b : Below w.heap.size w w'
  ft : w'.ownsRow w.heap.size 3 1 (.slice (some ⟨FT, 0, none⟩) n n) n (ints (Hu.fitL C n))
  pu : w'.ownsRow w.heap.size 3 1 (.slice (some ⟨PU, 0, none⟩) n n) n (ints (Hu.loadsL C n))
  pv : w'.ownsRow w.heap.size 3 1 (.slice (some ⟨PV, 0, none⟩) n n) n (ints (Hu.binsL C n))
  n1 : FT ≠ PU
  n2 : FT ≠ PV
  n3 : PU ≠ PV
theorem fitR_zero (n : Nat) (C : List (List Int)) : Hu.fitR n (Hu.fitTo C n 0).o 0 = List.replicate n (-1) := by
  apply List.ext_getElem
  · simp [Hu.fitR, Hu.tab]
  · intro i h1 h2; simp [Hu.fitR, Hu.tab]
theorem tab_zero (n : Nat) : Hu.tab n (fun _ => 0) = List.replicate n 0 := by
  apply List.ext_getElem
  · simp [Hu.tab]
  · intro i h1 h2; simp [Hu.tab]
theorem fitR_all (n : Nat) (C : List (List Int)) : Hu.fitR n (Hu.fitTo C n n).o n = Hu.fitL C n := by
  refine Hu.tab_ext (Hu.fitR_len _ _ _) fun i hi => ?_
  rw [Hu.fitR_lt hi hi]
theorem CfO.make {w w0 wr : World} {FB FT PU PV n ce d : Nat} {e : Option Addr} {C : List (List Int)} (hb : Below w.heap.size w w0) (h : CfI w0 wr FB e n ce FT PU PV (Hu.fitR n (Hu.fitTo C n n).o n) (Hu.tab n (Hu.fitTo C n n).u) (Hu.tab n (Hu.fitTo C n n).v)) (hs : w0.heap.size = w.heap.size + 1) (a b : Value) :
    CfO w (((wr.drewN d).setCell ⟨w.heap.size, 0, none⟩ a).setCell ⟨w.heap.size, 1, none⟩ b) n FT PU PV C := by
  have hd := below_drewN (Below.refl wr.heap.size wr) d
  have ob : ∀ g, g ≠ w.heap.size → (((wr.drewN d).setCell ⟨w.heap.size, 0, none⟩ a).setCell ⟨w.heap.size, 1, none⟩ b).heap[g]? = (wr.drewN d).heap[g]? := fun g hg => (Below.heap_setCell _ _ _ _ hg).trans (Below.heap_setCell _ _ _ _ hg)
  have l1 := (h.ft.lt FT rfl).1
  have l2 := (h.pu.lt PU rfl).1
  have l3 := (h.pv.lt PV rfl).1
  refine ⟨((hb.trans ((h.b0.mono (by omega)).trans (hd.mono (Nat.le_trans hb.size h.b0.size)))).setCell (p := ⟨w.heap.size, 0, none⟩) (Nat.le_refl _) _).setCell (p := ⟨w.heap.size, 1, none⟩) (Nat.le_refl _) _, ?_, ?_, ?_, h.n1, h.n2, h.n3⟩
  · rw [← fitR_all]
    exact own_low9 (own_blk (g_own h.ft hd) fun g hg => ob g (by simp [Value.ownBlock] at hg; omega)) (by omega)
  · exact own_low9 (own_blk (g_own h.pu hd) fun g hg => ob g (by simp [Value.ownBlock] at hg; omega)) (by omega)
  · exact own_low9 (own_blk (g_own h.pv hd) fun g hg => ob g (by simp [Value.ownBlock] at hg; omega)) (by omega)
end Go.Proofs.Ytkebaklmkidfoaa
namespace Go.Proofs.Ytkebaklmkidfoaa.Hu

def lsK (c : List (List Int)) (o : Fn) (L : Nat) (S : Sk) (k : Nat) : Fn := fun b => if b < k then lsN c o L S b else S.ls b
def frK (c : List (List Int)) (o : Fn) (L : Nat) (S : Sk) (k : Nat) : Fn := fun b => if b < k then frN c o L S b else S.fr b
theorem lsK_at (c : List (List Int)) (o : Fn) (L : Nat) (S : Sk) (k : Nat) : lsK c o L S k k = S.ls k := by simp [lsK]
theorem lsK_set {c : List (List Int)} {o : Fn} {L : Nat} {S : Sk} {k : Nat} (h : S.gn k = false ∧ sl c S.u S.v (ld o L S.la) k < S.ls k) (i : Nat) : upd (lsK c o L S k) k (sl c S.u S.v (ld o L S.la) k) i = lsK c o L S (k + 1) i := by
  by_cases e : i = k
  · subst e; rw [upd_same, lsK, if_pos (by omega), lsN, if_pos h]
  · rw [upd_else _ _ e]; simp only [lsK, show (i < k + 1 ↔ i < k) by omega]
theorem frK_set {c : List (List Int)} {o : Fn} {L : Nat} {S : Sk} {k : Nat} (h : S.gn k = false ∧ sl c S.u S.v (ld o L S.la) k < S.ls k) (i : Nat) : upd (frK c o L S k) k S.la i = frK c o L S (k + 1) i := by
  by_cases e : i = k
  · subst e; rw [upd_same, frK, if_pos (by omega), frN, if_pos h]
  · rw [upd_else _ _ e]; simp only [frK, show (i < k + 1 ↔ i < k) by omega]
theorem lsK_same {c : List (List Int)} {o : Fn} {L : Nat} {S : Sk} {k : Nat} (h : ¬ (S.gn k = false ∧ sl c S.u S.v (ld o L S.la) k < S.ls k)) (i : Nat) : lsK c o L S k i = lsK c o L S (k + 1) i := by
  by_cases e : i = k
  · subst e; rw [lsK_at, lsK, if_pos (by omega), lsN, if_neg h]
  · simp only [lsK, show (i < k + 1 ↔ i < k) by omega]
theorem frK_same {c : List (List Int)} {o : Fn} {L : Nat} {S : Sk} {k : Nat} (h : ¬ (S.gn k = false ∧ sl c S.u S.v (ld o L S.la) k < S.ls k)) (i : Nat) : frK c o L S k i = frK c o L S (k + 1) i := by
  by_cases e : i = k
  · subst e; rw [frK, if_neg (by omega), frK, if_pos (by omega), frN, if_neg h]
  · simp only [frK, show (i < k + 1 ↔ i < k) by omega]
def uK (o u : Fn) (L : Nat) (gn : Nat → Bool) (y : Int) (k : Nat) : Fn := fun i => if onB k o L gn i then u i + y else u i
def vK (v : Fn) (gn : Nat → Bool) (y : Int) (k : Nat) : Fn := fun b => if b < k ∧ gn b = true then v b - y else v b
def lK (ls : Fn) (gn : Nat → Bool) (y : Int) (k : Nat) : Fn := fun b => if b < k ∧ gn b = false then ls b - y else ls b
theorem on_zero (o : Fn) (L : Nat) (gn : Nat → Bool) (i : Nat) : onB 0 o L gn i = decide (i = L) := by simp [onB]
theorem on_succ (o : Fn) (L : Nat) (gn : Nat → Bool) (k i : Nat) : onB (k + 1) o L gn i = (onB k o L gn i || (gn k && decide (o k = (i : Int)))) := by
  simp only [onB, List.range_succ, List.any_append, List.any_cons, List.any_nil, Bool.or_false, Bool.or_assoc]
theorem uK_zero (o u : Fn) (L : Nat) (gn : Nat → Bool) (y : Int) (i : Nat) : upd u L (u L + y) i = uK o u L gn y 0 i := by
  unfold uK; rw [on_zero]
  by_cases e : i = L
  · subst e; simp [upd]
  · simp [upd, e]
theorem uK_off {o u : Fn} {L n k : Nat} {gn : Nat → Bool} {y : Int} (ho : Ow n o L) (hk : k < n) (h0 : 0 ≤ o k) : uK o u L gn y k (o k).toNat = u (o k).toNat := by
  have : onB k o L gn (o k).toNat = false := by
    rw [Bool.eq_false_iff]
    intro h
    simp only [onB, Bool.or_eq_true, decide_eq_true_eq, List.any_eq_true, List.mem_range, Bool.and_eq_true] at h
    rcases h with h | ⟨b, hb, _, h2⟩
    · rcases ho.is k hk with e | e <;> omega
    · have := ho.inj k hk b (by omega) h0 (by omega); omega
  rw [uK, this]; simp
theorem uK_set {o u : Fn} {L k : Nat} {gn : Nat → Bool} {y : Int} (hg : gn k = true) (h0 : 0 ≤ o k) (i : Nat) : upd (uK o u L gn y k) (o k).toNat (u (o k).toNat + y) i = uK o u L gn y (k + 1) i := by
  by_cases e : i = (o k).toNat
  · subst e
    rw [upd_same, uK, on_succ, hg]
    have : decide (o k = (((o k).toNat : Nat) : Int)) = true := by rw [decide_eq_true_eq]; omega
    rw [this]; simp
  · rw [upd_else _ _ e]
    have : decide (o k = (i : Int)) = false := by rw [decide_eq_false_iff_not]; omega
    unfold uK; rw [on_succ, this]; simp
theorem uK_same {o u : Fn} {L k : Nat} {gn : Nat → Bool} {y : Int} (hg : gn k = false) (i : Nat) : uK o u L gn y k i = uK o u L gn y (k + 1) i := by
  unfold uK; rw [on_succ, hg]; simp
theorem vK_at (v : Fn) (gn : Nat → Bool) (y : Int) (k : Nat) : vK v gn y k k = v k := by simp [vK]
theorem vK_set {v : Fn} {gn : Nat → Bool} {y : Int} {k : Nat} (hg : gn k = true) (i : Nat) : upd (vK v gn y k) k (v k - y) i = vK v gn y (k + 1) i := by
  by_cases e : i = k
  · subst e; rw [upd_same, vK, if_pos ⟨by omega, hg⟩]
  · rw [upd_else _ _ e]; simp only [vK, show (i < k + 1 ↔ i < k) by omega]
theorem vK_same {v : Fn} {gn : Nat → Bool} {y : Int} {k : Nat} (hg : gn k = false) (i : Nat) : vK v gn y k i = vK v gn y (k + 1) i := by
  by_cases e : i = k
  · subst e; rw [vK_at, vK, if_neg (by rw [hg]; simp)]
  · simp only [vK, show (i < k + 1 ↔ i < k) by omega]
theorem lK_at (ls : Fn) (gn : Nat → Bool) (y : Int) (k : Nat) : lK ls gn y k k = ls k := by simp [lK]
theorem lK_set {ls : Fn} {gn : Nat → Bool} {y : Int} {k : Nat} (hg : gn k = false) (i : Nat) : upd (lK ls gn y k) k (ls k - y) i = lK ls gn y (k + 1) i := by
  by_cases e : i = k
  · subst e; rw [upd_same, lK, if_pos ⟨by omega, hg⟩]
  · rw [upd_else _ _ e]; simp only [lK, show (i < k + 1 ↔ i < k) by omega]
theorem lK_same {ls : Fn} {gn : Nat → Bool} {y : Int} {k : Nat} (hg : gn k = true) (i : Nat) : lK ls gn y k i = lK ls gn y (k + 1) i := by
  by_cases e : i = k
  · subst e; rw [lK_at, lK, if_neg (by rw [hg]; simp)]
  · simp only [lK, show (i < k + 1 ↔ i < k) by omega]
/-- What one round leaves. -/
theorem round_u (c : List (List Int)) (n : Nat) (o : Fn) (L : Nat) (S : Sk) (i : Nat) : uK o S.u L S.gn (byN c n o L S) n i = (step c n o L S).u i := rfl
theorem round_v {c : List (List Int)} {n : Nat} {o : Fn} {L : Nat} {S : Sk} {i : Nat} (hi : i < n) : vK S.v S.gn (byN c n o L S) n i = (step c n o L S).v i := by
  show _ = if S.gn i then S.v i - byN c n o L S else S.v i
  simp [vK, hi]
theorem round_l {c : List (List Int)} {n : Nat} {o : Fn} {L : Nat} {S : Sk} {i : Nat} (hi : i < n) : lK (lsN c o L S) S.gn (byN c n o L S) n i = (step c n o L S).ls i := by
  show _ = if S.gn i then lsN c o L S i else lsN c o L S i - byN c n o L S
  cases h : S.gn i <;> simp [lK, hi, h]
/-- The best so far, as a number. -/
def bestI (ls : Fn) (gn : Nat → Bool) (k : Nat) : Int := match bestTo ls gn k with
  | none => -1
  | some b => (b : Int)
theorem bestI_gone {ls : Fn} {gn : Nat → Bool} {k : Nat} (h : gn k = true) : bestI ls gn (k + 1) = bestI ls gn k := by
  unfold bestI; rw [bestTo]
  cases bestTo ls gn k <;> simp [h]
theorem bestI_first {ls : Fn} {gn : Nat → Bool} {k : Nat} (h : gn k = false) (hn : bestTo ls gn k = none) : bestI ls gn (k + 1) = (k : Int) := by
  unfold bestI; rw [bestTo, hn]; simp [h]
theorem bestI_less {ls : Fn} {gn : Nat → Bool} {k b : Nat} (h : gn k = false) (hn : bestTo ls gn k = some b) (hl : ls k < ls b) : bestI ls gn (k + 1) = (k : Int) := by
  unfold bestI; rw [bestTo, hn]; simp [h, hl]
theorem bestI_more {ls : Fn} {gn : Nat → Bool} {k b : Nat} (hn : bestTo ls gn k = some b) (hl : ¬ ls k < ls b) : bestI ls gn (k + 1) = (b : Int) := by
  unfold bestI; rw [bestTo, hn]; simp [hl]
/-- The way back, one step. -/
theorem back_on {fr o : Fn} {L k : Nat} {b : Nat} : back fr L (k + 1) o (b : Int) = back fr L k (upd o b (if fr b < 0 then (L : Int) else o (fr b).toNat)) (fr b) := by
  rw [back, if_neg (by omega)]; simp
theorem back_off {fr o : Fn} {L k : Nat} : back fr L k o (-1) = o := by cases k <;> simp [back]
end Go.Proofs.Ytkebaklmkidfoaa.Hu
namespace Go.Proofs.Ytkebaklmkidfoaa
open Go.RowKit

theorem tabB_zero (n : Nat) : tabB n (fun _ => false) = List.replicate n false := by
  apply List.ext_getElem
  · simp [tabB]
  · intro i h1 h2; simp [tabB]
theorem drewN0 (w : World) : w.drewN 0 = w := rfl
theorem int_at {w : World} {a : Addr} {x : Int} (h : w.cell? a = some (.int .i64 x)) : ∃ y, w.cell? a = some (.int .i64 y) := ⟨x, h⟩
theorem S6.cr {w0 w wr : World} {M : Nat} {e : Option Addr} {n ce cap PU PV OW LS FR GN : Nat} {u v o ls fr : Hu.Fn} {gn : Nat → Bool} {C : List (List Int)} (h : S6 w wr w0.heap.size M e n ce cap PU PV OW LS FR GN u v o ls fr gn) (hc : CRow w0 e C) (hb : Below w0.heap.size w0 w) : CRow wr e C :=
  hc.below (h.off.under hb (h.ow.lt OW rfl).1 (h.pu.lt PU rfl).1 (h.pv.lt PV rfl).1)
theorem S6.draws {w wr : World} {bs M : Nat} {e : Option Addr} {n ce cap PU PV OW LS FR GN : Nat} {u v o ls fr : Hu.Fn} {gn : Nat → Bool} (h : S6 w wr bs M e n ce cap PU PV OW LS FR GN u v o ls fr gn) (d : Nat) : S6 w (wr.drewN d) bs M e n ce cap PU PV OW LS FR GN u v o ls fr gn :=
  have hd := below_drewN (Below.refl wr.heap.size wr) d
  ⟨h.m0, h.m1, h.m2, h.m3, g_own h.pu hd, g_own h.pv hd, g_own h.ow hd, g_own h.ls hd, g_own h.fr hd, g_own h.gn hd, h.nd, h.off.below hd h.off.size, h.ml⟩
theorem cr_cell {w : World} {bc oc n i : Nat} {C : List (List Int)} (hg : Hu.costB C = true) (hl : C.length = n) (hi : i < n) (h : CRow w (some ⟨bc, oc, none⟩) C) : ∃ rb ro ci, w.cell? ⟨bc, oc + i, none⟩ = some (.slice (some ⟨rb, ro, none⟩) n ci) ∧ ∀ b, b < n → w.cell? ⟨rb, ro + b, none⟩ = some (.int .i64 (Hu.ct C i b)) := by
  obtain ⟨b, o, ai, ci, e, _, h1, h2⟩ := h.at (show i < C.length by omega)
  cases e
  have hrl := (Hu.costB_row hg (show i < C.length by omega)).1.trans hl
  rw [hrl] at h1
  rcases h2 with h2 | ⟨rb, ro, rfl, _, h3⟩
  · rw [h2] at hrl; simp at hrl; omega
  · exact ⟨rb, ro, ci, h1, fun b hb => h3 b (by omega)⟩
set_option maxRecDepth 20000 in
set_option maxHeartbeats 8000000 in
theorem seek_any {e : Option Addr} {n ce cap M PU PV OW L : Nat} {C : List (List Int)} {T : Hu.Tri} {w0 w : World} (hg : Hu.costB C = true) (hl : C.length = n) (hL : L < n) (hT : Hu.Ou C n L T) (hG : Hu.Good C n) (hc : CRow w0 e C) (hb0 : Below w0.heap.size w0 w) (hnd : [M, PU, PV, OW].Nodup) (hM : M < w.heap.size)
    (m0 : w.cell? ⟨M, 0, none⟩ = some (.slice e n ce)) (m1 : w.cell? ⟨M, 1, none⟩ = some (.slice (some ⟨PU, 0, none⟩) n n)) (m2 : w.cell? ⟨M, 2, none⟩ = some (.slice (some ⟨PV, 0, none⟩) n n)) (m3 : w.cell? ⟨M, 3, none⟩ = some (.slice (some ⟨OW, 0, none⟩) n cap))
    (opu : w.ownsRow w0.heap.size 3 1 (.slice (some ⟨PU, 0, none⟩) n n) n (ints (Hu.tab n T.u))) (opv : w.ownsRow w0.heap.size 3 1 (.slice (some ⟨PV, 0, none⟩) n n) n (ints (Hu.tab n T.v))) (oow : w.ownsRow w0.heap.size 3 1 (.slice (some ⟨OW, 0, none⟩) n cap) n (ints (Hu.tab n T.o))) :
    Calls Try.prog 60 #[.pointer (some ⟨M, 0, none⟩), .int .i64 (L : Int)] w fun e w' => e = .returned (.tuple #[]) ∧ w'.ownsRow w0.heap.size 3 1 (.slice (some ⟨PU, 0, none⟩) n n) n (ints (Hu.tab n (Hu.seek C n L T).u)) ∧ w'.ownsRow w0.heap.size 3 1 (.slice (some ⟨PV, 0, none⟩) n n) n (ints (Hu.tab n (Hu.seek C n L T).v)) ∧ w'.ownsRow w0.heap.size 3 1 (.slice (some ⟨OW, 0, none⟩) n cap) n (ints (Hu.tab n (Hu.seek C n L T).o)) ∧ Off3 w w' OW PU PV := by
  have gl := Hu.costB_len hg
  rw [hl] at gl
  obtain ⟨n1', n10⟩ := gl
  obtain ⟨bc, oc, rfl⟩ : ∃ bc oc, e = some ⟨bc, oc, none⟩ := by
    rcases hc with h | ⟨bc, oc, h, _⟩
    · rw [h] at hl; simp at hl; omega
    · exact ⟨bc, oc, h⟩
  have hmi := makeI_run n (by omega)
  have hmb := makeB_run n (by omega)
  have lpu := (opu.lt PU rfl).2
  have lpv := (opv.lt PV rfl).2
  have low := (oow.lt OW rfl).2
  have bA := below_new w (.cells (madeCells #[.int .i64 0] n) 3)
  have oA := own_low9 (made_own w n (by omega)) (Nat.le_refl _)
  have sA : (w.alloc (.cells (madeCells #[.int .i64 0] n) 3)).heap.size = w.heap.size + 1 := World.size_alloc _ _
  obtain ⟨wA, hwA⟩ : ∃ wA, wA = w.alloc (.cells (madeCells #[.int .i64 0] n) 3) := ⟨_, rfl⟩
  rw [← hwA] at bA oA sA
  have bB := below_new wA (.cells (madeCells #[.int .i64 0] n) 3)
  have oB := own_low9 (made_own wA n (by omega)) (show w.heap.size ≤ wA.heap.size by omega)
  have sB : (wA.alloc (.cells (madeCells #[.int .i64 0] n) 3)).heap.size = w.heap.size + 1 + 1 := by rw [World.size_alloc, sA]
  obtain ⟨wB, hwB⟩ : ∃ wB, wB = wA.alloc (.cells (madeCells #[.int .i64 0] n) 3) := ⟨_, rfl⟩
  rw [← hwB] at bB oB sB
  have bD := below_new wB (.cells (madeCells #[.bool false] n) 4)
  have oD := own_low9 (madeB_own wB n (by omega)) (show w.heap.size ≤ wB.heap.size by omega)
  have sD : (wB.alloc (.cells (madeCells #[.bool false] n) 4)).heap.size = w.heap.size + 3 := by rw [World.size_alloc, sB]
  obtain ⟨wD, hwD⟩ : ∃ wD, wD = wB.alloc (.cells (madeCells #[.bool false] n) 4) := ⟨_, rfl⟩
  rw [← hwD] at bD oD sD
  rw [sB] at oD
  rw [sA] at oB
  have bAD := bA.trans ((bB.mono (by omega)).trans (bD.mono (by omega)))
  have HS0 : Hid (S6 w wD w0.heap.size M (some ⟨bc, oc, none⟩) n ce cap PU PV OW w.heap.size (w.heap.size + 1) (w.heap.size + 1 + 1) T.u T.v T.o (fun _ => 0) (fun _ => 0) (fun _ => false)) := hide
    ⟨(bAD.cell (p := ⟨M, 0, none⟩) hM).trans m0, (bAD.cell (p := ⟨M, 1, none⟩) hM).trans m1, (bAD.cell (p := ⟨M, 2, none⟩) hM).trans m2, (bAD.cell (p := ⟨M, 3, none⟩) hM).trans m3, g_own opu bAD, g_own opv bAD, g_own oow bAD, by rw [tab_zero]; exact g_own oA (bB.mono (by omega) |>.trans (bD.mono (by omega))), by rw [tab_zero]; exact g_own oB (bD.mono (by omega)), by rw [tabB_zero]; exact oD, by
      simp only [List.nodup_cons, List.mem_cons, List.not_mem_nil, or_false, not_or, List.nodup_nil, and_true, not_false_eq_true] at hnd ⊢
      omega, (Off3.refl w OW PU PV).below bAD (Nat.le_refl _), hM⟩
  have HWD := hide (show ((w.alloc (.cells (madeCells #[.int .i64 0] n) 3)).alloc (.cells (madeCells #[.int .i64 0] n) 3)).alloc (.cells (madeCells #[.bool false] n) 4) = wD by rw [← hwA, ← hwB, ← hwD])
  have cA : (w.alloc (.cells (madeCells #[.int .i64 0] n) 3)).cell? ⟨M, 0, none⟩ = some (.slice (some ⟨bc, oc, none⟩) n ce) := by rw [← hwA]; exact (bA.cell (p := ⟨M, 0, none⟩) hM).trans m0
  have HG := hide hg
  have HN := hide hl
  have HT := hide hT
  have HGd := hide hG
  have HC := hide hc
  have HB0 := hide hb0
  clear bA oA bB oB bD oD bAD hwA hwB hwD hg hl hT hG hc hb0 opu opv oow hnd m1 m2 m3 sA sB sD cA lpu lpv low
  clear wA wB
  go_enter Try.func60, Try.ntmps60
  go_upto_region 4 with fail
  rw [HWD.out]
  clear HWD m0 hmi hmb
  generalize w.heap.size + 1 + 1 = GN at HS0 ⊢
  generalize w.heap.size + 1 = FR at HS0 ⊢
  generalize w.heap.size = LS at HS0 hM ⊢
  clear hM
  go_wp2_with fail
  go_loopw [8, 31] (fun _ s wr => ∃ (k : Nat), s = .int .i64 k ∧ k ≤ n ∧ Hid (S6 w wr w0.heap.size M (some ⟨bc, oc, none⟩) n ce cap PU PV OW LS FR GN T.u T.v T.o (fun b => if b < k then Hu.far else 0) (fun b => if b < k then -1 else 0) (fun _ => false))) (fun _ s _ => n - (intOf s).toNat)
  case atStart => exact ⟨0, rfl, Nat.zero_le _, hide (HS0.out.as (fun _ _ => rfl) (fun _ _ => rfl) (fun _ _ => rfl) (fun i _ => by simp) (fun i _ => by simp) (fun _ _ => rfl))⟩
  case round =>
    clear HS0
    obtain ⟨k, rfl, hk, HS⟩ := hrel
    by_cases hlt : k < n
    · have i0 : (0 : Int) ≤ (k : Int) := by omega
      have i1 : (k : Int) < (n : Int) := by omega
      obtain ⟨x1, c1⟩ := int_at (HS.out.c_ls hlt)
      have z1 := HS.out.z_ls k
      have A1 := HS.out.set_ls (i := k) Hu.far 0
      rw [drewN0] at A1
      obtain ⟨x2, c2⟩ := int_at (A1.c_fr hlt)
      have z2 := A1.z_fr k
      have A2 := A1.set_fr (i := k) (-1) 0
      rw [drewN0] at A2
      have HA2 := hide (A2.as (fun _ _ => rfl) (fun _ _ => rfl) (fun _ _ => rfl) (ls' := fun b => if b < k + 1 then Hu.far else 0) (fun i _ => by simp only [Hu.upd]; (repeat' split) <;> omega) (fr' := fun b => if b < k + 1 then -1 else 0) (fun i _ => by simp only [Hu.upd]; (repeat' split) <;> omega) (fun _ _ => rfl))
      clear HS A1 A2
      unfold Hu.far at *
      go_wp2_with fail
      go_roundw
      case rel => exact ⟨k + 1, by go_num, by omega, HA2⟩
      case measure => simp only [intOf]; omega
    · have hke : k = n := by omega
      have HS1 : Hid (S6 w wr w0.heap.size M (some ⟨bc, oc, none⟩) n ce cap PU PV OW LS FR GN (Hu.start T.u T.v).u (Hu.start T.u T.v).v T.o (Hu.start T.u T.v).ls (Hu.start T.u T.v).fr (Hu.start T.u T.v).gn) := hide (HS.out.as (fun _ _ => rfl) (fun _ _ => rfl) (fun _ _ => rfl) (fun i hi => by simp [Hu.start]; omega) (fun i hi => by simp [Hu.start]; omega) (fun _ _ => rfl))
      have HI0 := hide (Hu.In.start (L := L) HT.out.pr)
      have i1 : ¬ (k : Int) < (n : Int) := by omega
      clear HS hk hlt hke
      go_wp2_with fail
      go_loopg [9] n (fun gk s9 wi => ∃ (S : Hu.Sk) (g : List Nat), s9 = .int .i64 S.la ∧ Hid (gk = n - g.length) ∧ Hid (Hu.In C n T.o L S g) ∧ Hid (Hu.run C n T.o L n (Hu.start T.u T.v) = Hu.run C n T.o L gk S) ∧ Hid (S6 w wi w0.heap.size M (some ⟨bc, oc, none⟩) n ce cap PU PV OW LS FR GN S.u S.v T.o S.ls S.fr S.gn))
      case atStart => exact ⟨Hu.start T.u T.v, [], rfl, hide rfl, HI0, hide rfl, HS1⟩
      case round =>
        clear HS1 HI0
        obtain ⟨S, g, rfl, HK, HI, HR, HS⟩ := hrel
        have HCR := hide (HS.out.cr HC.out HB0.out)
        have m3 := HS.out.m3
        go_upto_if 43 with fail
        go_cut [9, 10] (fun s9 s10 wc => s9 = .int .i64 S.la ∧ s10 = .int .i64 (Hu.nx T.o L S.la) ∧ wc = wr)
        case first =>
          have hla := HI.out.la
          cases g with
          | nil =>
            have e1 : S.la = -1 := hla
            have e2 : Hu.nx T.o L S.la = (L : Int) := by rw [e1, Hu.nx, if_pos (by omega)]
            have HE := hide e2
            have HE1 := hide e1
            rw [e1]
            clear hla e2 e1 HS HCR
            go_wp2_with fail
            go_meet
            case rel => exact ⟨by rw [HE1.out], by rw [HE.out], rfl⟩
          | cons d r =>
            have e1 : S.la = (d : Int) := hla
            have hd := HI.out.gb d List.mem_cons_self
            have c1 := HS.out.c_ow hd
            have e2 : Hu.nx T.o L S.la = T.o d := by rw [e1, Hu.nx, if_neg (by omega)]; simp
            have HE := hide e2
            have HE1 := hide e1
            rw [e1]
            clear e2 hla e1
            have i0 : (0 : Int) ≤ (d : Int) := by omega
            have i1 : (d : Int) < (n : Int) := by omega
            clear HS HCR
            go_wp2_with fail
            go_meet
            case rel => exact ⟨by rw [HE1.out], by rw [HE.out], rfl⟩
        case rest =>
          obtain ⟨rfl, rfl, hwc⟩ := hcut
          obtain rfl : wr = wc := hwc.symm
          by_cases hx : 0 ≤ Hu.nx T.o L S.la
          · have hI := Hu.ld_lt HT.out.ow hL HI.out.gb (HI.out.owns hx) (show Hu.PR g S.la by rw [HI.out.la]; exact Hu.PR.last g)
            obtain ⟨s1, s2, s3, s4, s5, s6⟩ := HI.out.step HGd.out HT.out.ow hL hx
            have HBD := hide (HI.out.bd HGd.out HT.out.ow hL)
            have HOW := hide (HI.out.owns hx)
            have HLZ := hide HI.out.lz
            have HGL := hide HI.out.gl
            have enx := Hu.ld_nx hx
            have hlen := s6.len
            simp only [List.length_cons] at hlen
            have hRun : Hu.run C n T.o L (n - g.length) S = Hu.run C n T.o L (n - g.length - 1) (Hu.step C n T.o L S) := by
              have : n - g.length = (n - g.length - 1) + 1 := by omega
              rw [this, Hu.run_on hx]; rfl
            have HRn := hide (HR.out.trans ((congrArg (fun k => Hu.run C n T.o L k S) HK.out).trans hRun))
            have HIN := hide s6
            have HBT := hide s1
            rw [enx]
            have hfe := HI.out.pr.fe _ hI
            have HFE := hide hfe
            have HBB : Hid (Hu.byN C n T.o L S = Hu.lsN C T.o L S (Hu.toN C n T.o L S)) := hide rfl
            have HBY := hide (show 0 ≤ Hu.byN C n T.o L S ∧ Hu.byN C n T.o L S ≤ 1099511627776 from ⟨s4, s5⟩)
            have HST : Hid (∀ i, i < n → Hu.frK C T.o L S n i = (Hu.step C n T.o L S).fr i) := hide fun i hi => by show _ = Hu.frN C T.o L S i; rw [Hu.frK, if_pos hi]
            have HSL : Hid (∀ k, Hu.sl C S.u S.v (Hu.ld T.o L S.la) k = Hu.ct C (Hu.ld T.o L S.la) k - S.u (Hu.ld T.o L S.la) - S.v k) := hide fun _ => rfl
            have HKs := hide fun (k : Nat) (h : S.gn k = false ∧ Hu.sl C S.u S.v (Hu.ld T.o L S.la) k < S.ls k) => (⟨fun i => Hu.lsK_set h i, fun i => Hu.frK_set h i⟩ : _ ∧ _)
            have HKn := hide fun (k : Nat) (h : ¬ (S.gn k = false ∧ Hu.sl C S.u S.v (Hu.ld T.o L S.la) k < S.ls k)) => (⟨fun i => Hu.lsK_same h i, fun i => Hu.frK_same h i⟩ : _ ∧ _)
            have HNN : Hid (∀ b, b < n → 0 ≤ Hu.lsN C T.o L S b ∧ Hu.lsN C T.o L S b ≤ 1099511627776) := hide fun b hb => by
              have h3 := HI.out.lz b hb
              have h4 := HFE.out b hb
              unfold Hu.far at h3
              rw [Hu.lsN]
              by_cases e : S.gn b = false ∧ Hu.sl C S.u S.v (Hu.ld T.o L S.la) b < S.ls b
              · rw [if_pos e]
                have := e.2
                unfold Hu.sl at this ⊢
                omega
              · rw [if_neg e]; omega
            have HS3 : Hid (S6 w wr w0.heap.size M (some ⟨bc, oc, none⟩) n ce cap PU PV OW LS FR GN S.u S.v T.o (Hu.lsK C T.o L S 0) (Hu.frK C T.o L S 0) S.gn) := hide (HS.out.as (fun _ _ => rfl) (fun _ _ => rfl) (fun _ _ => rfl) (fun i _ => by simp [Hu.lsK]) (fun i _ => by simp [Hu.frK]) (fun _ _ => rfl))
            have n0 : ¬ ((Hu.ld T.o L S.la : Nat) : Int) < 0 := by omega
            have I0 : (0 : Int) ≤ ((Hu.ld T.o L S.la : Nat) : Int) := by omega
            have I1 : ((Hu.ld T.o L S.la : Nat) : Int) < (n : Int) := by omega
            have L0 : (0 : Int) ≤ (L : Int) := by omega
            have L1 : (L : Int) < (n : Int) := by omega
            clear HS HCR m3 HR hRun hx enx hfe s1 s4 s5 s6 HI
            generalize Hu.ld T.o L S.la = I at *
            go_wp2_with fail
            go_loopw [11, 12] (fun s _ wi => ∃ (k : Nat), s = .int .i64 k ∧ k ≤ n ∧ Hid (S6 w wi w0.heap.size M (some ⟨bc, oc, none⟩) n ce cap PU PV OW LS FR GN S.u S.v T.o (Hu.lsK C T.o L S k) (Hu.frK C T.o L S k) S.gn)) (fun s _ _ => n - (intOf s).toNat)
            case atStart => exact ⟨0, rfl, Nat.zero_le _, HS3⟩
            case round =>
              clear HS3
              obtain ⟨k, rfl, hk, HS⟩ := hrel
              by_cases hlt : k < n
              · obtain ⟨rb, ro, ci, h1, h2⟩ := cr_cell HG.out HN.out hI (HS.out.cr HC.out HB0.out)
                have h2 := h2 k hlt
                have m0 := HS.out.m0
                have m1 := HS.out.m1
                have m2 := HS.out.m2
                have cu := HS.out.c_pu hI
                have cv := HS.out.c_pv hlt
                have cg := HS.out.c_gn hlt
                have cl := HS.out.c_ls hlt
                rw [Hu.lsK_at] at cl
                have zl := HS.out.z_ls k
                have b1 := HBD.out.1 I hI
                have b2 := HBD.out.2 k hlt
                have b3 := HGd.out.cl I hI k hlt
                have w1 : IntKind.i64.wrap (Hu.ct C I k - S.u I) = Hu.ct C I k - S.u I := by rw [IntKind.wrap_i64]; omega
                have w2 : IntKind.i64.wrap (Hu.ct C I k - S.u I - S.v k) = Hu.sl C S.u S.v I k := by rw [IntKind.wrap_i64, HSL.out k]; omega
                have i0 : (0 : Int) ≤ (k : Int) := by omega
                have i1 : (k : Int) < (n : Int) := by omega
                by_cases hc : S.gn k = false ∧ Hu.sl C S.u S.v I k < S.ls k
                · obtain ⟨y1, y2⟩ := HKs.out k hc
                  obtain ⟨hc1, hc2⟩ := hc
                  rw [hc1] at cg
                  have HA1 : Hid (∀ d, S6 w ((wr.drewN d).setCell ⟨LS, k, none⟩ (.int .i64 (Hu.sl C S.u S.v I k))) w0.heap.size M (some ⟨bc, oc, none⟩) n ce cap PU PV OW LS FR GN S.u S.v T.o (Hu.lsK C T.o L S (k + 1)) (Hu.frK C T.o L S k) S.gn) := hide fun d => (HS.out.set_ls (i := k) _ d).as (fun _ _ => rfl) (fun _ _ => rfl) (fun _ _ => rfl) (fun i _ => y1 i) (fun _ _ => rfl) (fun _ _ => rfl)
                  have HA2 : Hid (∀ d, S6 w (((wr.drewN d).setCell ⟨LS, k, none⟩ (.int .i64 (Hu.sl C S.u S.v I k))).setCell ⟨FR, k, none⟩ (.int .i64 S.la)) w0.heap.size M (some ⟨bc, oc, none⟩) n ce cap PU PV OW LS FR GN S.u S.v T.o (Hu.lsK C T.o L S (k + 1)) (Hu.frK C T.o L S (k + 1)) S.gn) := hide fun d => (((HA1.out d).set_fr (i := k) S.la 0).as (fun _ _ => rfl) (fun _ _ => rfl) (fun _ _ => rfl) (fun _ _ => rfl) (fun i _ => y2 i) (fun _ _ => rfl))
                  clear HS y1 y2 b1 b2 b3
                  go_wp2_with fail
                  go_quiet (fail)
                  obtain ⟨x2, cf⟩ := int_at ((HA1.out nq).c_fr hlt)
                  have zf := (HA1.out nq).z_fr k
                  clear HA1
                  go_wp2_with fail
                  go_roundw
                  case rel => exact ⟨k + 1, by go_num, by omega, hide (HA2.out _)⟩
                  case measure => simp only [intOf]; omega
                · obtain ⟨y1, y2⟩ := HKn.out k hc
                  have HA2 : Hid (∀ d, S6 w (wr.drewN d) w0.heap.size M (some ⟨bc, oc, none⟩) n ce cap PU PV OW LS FR GN S.u S.v T.o (Hu.lsK C T.o L S (k + 1)) (Hu.frK C T.o L S (k + 1)) S.gn) := hide fun d => ((HS.out.draws d).as (fun _ _ => rfl) (fun _ _ => rfl) (fun _ _ => rfl) (fun i _ => y1 i) (fun i _ => y2 i) (fun _ _ => rfl))
                  clear HS y1 y2 b1 b2 b3
                  cases hgk : S.gn k
                  · have hc2 : ¬ Hu.sl C S.u S.v I k < S.ls k := fun h => hc ⟨hgk, h⟩
                    rw [hgk] at cg
                    clear hc hgk
                    go_wp2_with fail
                    go_quiet (fail)
                    go_wp2_with fail
                    go_roundw
                    case rel => exact ⟨k + 1, by go_num, by omega, hide (HA2.out _)⟩
                    case measure => simp only [intOf]; omega
                  · rw [hgk] at cg
                    clear hc hgk
                    go_wp2_with fail
                    go_quiet (fail)
                    go_wp2_with fail
                    go_roundw
                    case rel => exact ⟨k + 1, by go_num, by omega, hide (HA2.out _)⟩
                    case measure => simp only [intOf]; omega
              · have i1 : ¬ (k : Int) < (n : Int) := by omega
                have hke : k = n := by omega
                have HS4 : Hid (S6 w wr w0.heap.size M (some ⟨bc, oc, none⟩) n ce cap PU PV OW LS FR GN S.u S.v T.o (Hu.lsN C T.o L S) (Hu.frK C T.o L S n) S.gn) := hide (by subst hke; exact HS.out.as (fun _ _ => rfl) (fun _ _ => rfl) (fun _ _ => rfl) (fun i hi => by rw [Hu.lsK, if_pos hi]) (fun _ _ => rfl) (fun _ _ => rfl))
                clear HS hk hlt hke HSL HKs HKn
                go_wp2_with fail
                clear i1
                go_loopw [13, 14] (fun s13 s wi => ∃ (k : Nat), s = .int .i64 k ∧ k ≤ n ∧ s13 = .int .i64 (Hu.bestI (Hu.lsN C T.o L S) S.gn k) ∧ Hid (S6 w wi w0.heap.size M (some ⟨bc, oc, none⟩) n ce cap PU PV OW LS FR GN S.u S.v T.o (Hu.lsN C T.o L S) (Hu.frK C T.o L S n) S.gn)) (fun _ s _ => n - (intOf s).toNat)
                case atStart => exact ⟨0, rfl, Nat.zero_le _, rfl, HS4⟩
                case round =>
                  clear HS4
                  obtain ⟨k, rfl, hk, rfl, HS⟩ := hrel
                  by_cases hlt : k < n
                  · have i0 : (0 : Int) ≤ (k : Int) := by omega
                    have i1 : (k : Int) < (n : Int) := by omega
                    have cg := HS.out.c_gn hlt
                    have cl := HS.out.c_ls hlt
                    have HA := hide fun d => HS.out.draws d
                    cases hgk : S.gn k
                    · rw [hgk] at cg
                      cases hbt : Hu.bestTo (Hu.lsN C T.o L S) S.gn k with
                      | none =>
                        have e1 : Hu.bestI (Hu.lsN C T.o L S) S.gn k = -1 := by rw [Hu.bestI, hbt]
                        have HE := hide (Hu.bestI_first hgk hbt)
                        rw [e1]
                        clear HS hgk hbt e1
                        go_wp2_with fail
                        go_quiet (fail)
                        go_wp2_with fail
                        go_roundw
                        case rel => exact ⟨k + 1, by go_num, by omega, by rw [HE.out], hide (HA.out _)⟩
                        case measure => simp only [intOf]; omega
                      | some b =>
                        have e1 : Hu.bestI (Hu.lsN C T.o L S) S.gn k = (b : Int) := by rw [Hu.bestI, hbt]
                        have hbk := (Hu.bestTo_some hbt).1
                        have cb := HS.out.c_ls (show b < n by omega)
                        have b0 : (0 : Int) ≤ (b : Int) := by omega
                        have b1 : (b : Int) < (n : Int) := by omega
                        have b2 : ¬ (b : Int) < 0 := by omega
                        rw [e1]
                        by_cases hc : Hu.lsN C T.o L S k < Hu.lsN C T.o L S b
                        · have HE := hide (Hu.bestI_less hgk hbt hc)
                          clear HS hgk hbt e1
                          go_wp2_with fail
                          go_quiet (fail)
                          go_wp2_with fail
                          go_roundw
                          case rel => exact ⟨k + 1, by go_num, by omega, by rw [HE.out], hide (HA.out _)⟩
                          case measure => simp only [intOf]; omega
                        · have HE := hide (Hu.bestI_more hbt hc)
                          clear HS hgk hbt e1
                          go_wp2_with fail
                          go_quiet (fail)
                          go_wp2_with fail
                          go_roundw
                          case rel => exact ⟨k + 1, by go_num, by omega, by rw [HE.out], hide (HA.out _)⟩
                          case measure => simp only [intOf]; omega
                    · rw [hgk] at cg
                      have HE := hide (Hu.bestI_gone (ls := Hu.lsN C T.o L S) hgk)
                      clear HS hgk
                      go_wp2_with fail
                      go_quiet (fail)
                      go_wp2_with fail
                      go_roundw
                      case rel => exact ⟨k + 1, by go_num, by omega, by rw [HE.out], hide (HA.out _)⟩
                      case measure => simp only [intOf]; omega
                  · have i1 : ¬ (k : Int) < (n : Int) := by omega
                    have hke : k = n := by omega
                    have e1 : Hu.bestI (Hu.lsN C T.o L S) S.gn k = ((Hu.toN C n T.o L S : Nat) : Int) := by rw [hke, Hu.bestI, HBT.out]
                    rw [e1]
                    have cb := HS.out.c_ls s2
                    rw [← HBB.out] at cb
                    have cu := HS.out.c_pu hL
                    have zu := HS.out.z_pu L
                    have m1 := HS.out.m1
                    have b1 := HBD.out.1 L hL
                    have b2 := HBY.out
                    have t0 : (0 : Int) ≤ ((Hu.toN C n T.o L S : Nat) : Int) := by omega
                    have t1 : ((Hu.toN C n T.o L S : Nat) : Int) < (n : Int) := by omega
                    have w1 : IntKind.i64.wrap (S.u L + Hu.byN C n T.o L S) = S.u L + Hu.byN C n T.o L S := by rw [IntKind.wrap_i64]; omega
                    have HU := hide fun i => Hu.uK_zero T.o S.u L S.gn (Hu.byN C n T.o L S) i
                    have HA := hide (HS.out.set_pu (i := L) (S.u L + Hu.byN C n T.o L S) 0)
                    rw [drewN0] at HA
                    have HS5 : Hid (S6 w (wr.setCell ⟨PU, L, none⟩ (.int .i64 (S.u L + Hu.byN C n T.o L S))) w0.heap.size M (some ⟨bc, oc, none⟩) n ce cap PU PV OW LS FR GN (Hu.uK T.o S.u L S.gn (Hu.byN C n T.o L S) 0) (Hu.vK S.v S.gn (Hu.byN C n T.o L S) 0) T.o (Hu.lK (Hu.lsN C T.o L S) S.gn (Hu.byN C n T.o L S) 0) (Hu.frK C T.o L S n) S.gn) := hide (HA.out.as (fun i _ => HU.out i) (fun i _ => by simp [Hu.vK]) (fun _ _ => rfl) (fun i _ => by simp [Hu.lK]) (fun _ _ => rfl) (fun _ _ => rfl))
                    have HUs := hide fun (k : Nat) (hk : k < n) (hg : S.gn k = true) (h0 : 0 ≤ T.o k) => (⟨Hu.uK_off (u := S.u) (gn := S.gn) (y := Hu.byN C n T.o L S) HT.out.ow hk h0, fun i => Hu.uK_set (u := S.u) (L := L) (y := Hu.byN C n T.o L S) hg h0 i⟩ : _ ∧ _)
                    clear HS hk hlt hke e1 HA HU b1 b2
                    go_wp2_with fail
                    clear i1 w1 cb cu zu m1
                    go_loopw [16] (fun s wi => ∃ (k : Nat), s = .int .i64 k ∧ k ≤ n ∧ Hid (S6 w wi w0.heap.size M (some ⟨bc, oc, none⟩) n ce cap PU PV OW LS FR GN (Hu.uK T.o S.u L S.gn (Hu.byN C n T.o L S) k) (Hu.vK S.v S.gn (Hu.byN C n T.o L S) k) T.o (Hu.lK (Hu.lsN C T.o L S) S.gn (Hu.byN C n T.o L S) k) (Hu.frK C T.o L S n) S.gn)) (fun s _ => n - (intOf s).toNat)
                    case atStart => exact ⟨0, rfl, Nat.zero_le _, HS5⟩
                    case round =>
                      clear HS5
                      obtain ⟨k, rfl, hk, HS⟩ := hrel
                      by_cases hlt : k < n
                      · have i0 : (0 : Int) ≤ (k : Int) := by omega
                        have i1 : (k : Int) < (n : Int) := by omega
                        have cg := HS.out.c_gn hlt
                        have b2 := HBY.out
                        cases hgk : S.gn k
                        · rw [hgk] at cg
                          have cl := HS.out.c_ls hlt
                          rw [Hu.lK_at] at cl
                          have zl := HS.out.z_ls k
                          have b3 := HNN.out k hlt
                          have w1 : IntKind.i64.wrap (Hu.lsN C T.o L S k - Hu.byN C n T.o L S) = Hu.lsN C T.o L S k - Hu.byN C n T.o L S := by rw [IntKind.wrap_i64]; omega
                          have HA := hide (HS.out.set_ls (i := k) (Hu.lsN C T.o L S k - Hu.byN C n T.o L S) 0)
                          rw [drewN0] at HA
                          have HA2 := hide (HA.out.as (fun i _ => Hu.uK_same (o := T.o) (u := S.u) (L := L) (y := Hu.byN C n T.o L S) hgk i) (fun i _ => Hu.vK_same (v := S.v) (y := Hu.byN C n T.o L S) hgk i) (fun _ _ => rfl) (fun i _ => Hu.lK_set (ls := Hu.lsN C T.o L S) (y := Hu.byN C n T.o L S) hgk i) (fun _ _ => rfl) (fun _ _ => rfl))
                          clear HS HA hgk b2 b3
                          go_wp2_with fail
                          go_roundw
                          case rel => exact ⟨k + 1, by go_num, by omega, HA2⟩
                          case measure => simp only [intOf]; omega
                        · rw [hgk] at cg
                          have h0 := HOW.out k ((HGL.out k hlt).1 hgk)
                          obtain ⟨j, ej⟩ : ∃ j : Nat, T.o k = (j : Int) := ⟨(T.o k).toNat, by omega⟩
                          have ej' : (T.o k).toNat = j := by omega
                          have hj : j < n := by
                            rcases HT.out.ow.is k hlt with e | e <;> omega
                          obtain ⟨y1, y2⟩ := HUs.out k hlt hgk h0
                          rw [ej'] at y1 y2
                          have co := HS.out.c_ow hlt
                          rw [ej] at co
                          have cu := HS.out.c_pu hj
                          rw [y1] at cu
                          have zu := HS.out.z_pu j
                          have m1 := HS.out.m1
                          have m2 := HS.out.m2
                          have m3 := HS.out.m3
                          have b3 := HBD.out.1 j hj
                          have b4 := HBD.out.2 k hlt
                          have w1 : IntKind.i64.wrap (S.u j + Hu.byN C n T.o L S) = S.u j + Hu.byN C n T.o L S := by rw [IntKind.wrap_i64]; omega
                          have w2 : IntKind.i64.wrap (S.v k - Hu.byN C n T.o L S) = S.v k - Hu.byN C n T.o L S := by rw [IntKind.wrap_i64]; omega
                          have j0 : (0 : Int) ≤ (j : Int) := by omega
                          have j1 : (j : Int) < (n : Int) := by omega
                          have HA1 : Hid (∀ d, S6 w ((wr.drewN d).setCell ⟨PU, j, none⟩ (.int .i64 (S.u j + Hu.byN C n T.o L S))) w0.heap.size M (some ⟨bc, oc, none⟩) n ce cap PU PV OW LS FR GN (Hu.uK T.o S.u L S.gn (Hu.byN C n T.o L S) (k + 1)) (Hu.vK S.v S.gn (Hu.byN C n T.o L S) k) T.o (Hu.lK (Hu.lsN C T.o L S) S.gn (Hu.byN C n T.o L S) k) (Hu.frK C T.o L S n) S.gn) := hide fun d => (HS.out.set_pu (i := j) _ d).as (fun i _ => y2 i) (fun _ _ => rfl) (fun _ _ => rfl) (fun _ _ => rfl) (fun _ _ => rfl) (fun _ _ => rfl)
                          have q2 := (HA1.out 0).m2
                          have cv := (HA1.out 0).c_pv hlt
                          rw [Hu.vK_at] at cv
                          have zv := (HA1.out 0).z_pv k
                          rw [drewN0] at q2 cv zv
                          have HA2 : Hid (∀ d, S6 w (((wr.drewN d).setCell ⟨PU, j, none⟩ (.int .i64 (S.u j + Hu.byN C n T.o L S))).setCell ⟨PV, k, none⟩ (.int .i64 (S.v k - Hu.byN C n T.o L S))) w0.heap.size M (some ⟨bc, oc, none⟩) n ce cap PU PV OW LS FR GN (Hu.uK T.o S.u L S.gn (Hu.byN C n T.o L S) (k + 1)) (Hu.vK S.v S.gn (Hu.byN C n T.o L S) (k + 1)) T.o (Hu.lK (Hu.lsN C T.o L S) S.gn (Hu.byN C n T.o L S) (k + 1)) (Hu.frK C T.o L S n) S.gn) := hide fun d => ((HA1.out d).set_pv (i := k) _ 0).as (fun _ _ => rfl) (fun i _ => Hu.vK_set (v := S.v) (y := Hu.byN C n T.o L S) hgk i) (fun _ _ => rfl) (fun i _ => Hu.lK_same (ls := Hu.lsN C T.o L S) (y := Hu.byN C n T.o L S) hgk i) (fun _ _ => rfl) (fun _ _ => rfl)
                          clear HS HA1 hgk b2 b3 b4 y1 y2 h0 ej ej'
                          go_wp2_with fail
                          go_region
                          go_wp2_with fail
                          go_roundw
                          case rel => exact ⟨k + 1, by go_num, by omega, hide (HA2.out 1)⟩
                          case measure => simp only [intOf]; omega
                      · have i1 : ¬ (k : Int) < (n : Int) := by omega
                        have hke : k = n := by omega
                        have cg := HS.out.c_gn s2
                        have zg := HS.out.z_gn (Hu.toN C n T.o L S)
                        have HA := hide (HS.out.set_gn (i := Hu.toN C n T.o L S) true 0)
                        rw [drewN0, hke] at HA
                        have HA2 : Hid (S6 w (wr.setCell ⟨GN, Hu.toN C n T.o L S, none⟩ (.bool true)) w0.heap.size M (some ⟨bc, oc, none⟩) n ce cap PU PV OW LS FR GN (Hu.step C n T.o L S).u (Hu.step C n T.o L S).v T.o (Hu.step C n T.o L S).ls (Hu.step C n T.o L S).fr (Hu.step C n T.o L S).gn) := hide (HA.out.as (fun i _ => Hu.round_u C n T.o L S i) (fun i hi => Hu.round_v hi) (fun _ _ => rfl) (fun i hi => Hu.round_l hi) (fun i hi => HST.out i hi) (fun i _ => by show updB S.gn _ true i = (decide (i = _) || S.gn i); unfold updB; by_cases e : i = Hu.toN C n T.o L S <;> simp [e]))
                        clear HS HA hke
                        go_wp2_with fail
                        go_roundg (n - g.length - 1)
                        case measure => have := HK.out; omega
                        case rel => exact ⟨Hu.step C n T.o L S, Hu.toN C n T.o L S :: g, rfl, hide (by simp; omega), HIN, HRn, HA2⟩
          · obtain ⟨d, r, rfl⟩ : ∃ d r, g = d :: r := by
              cases g with
              | nil => rw [HI.out.la] at hx; exact absurd (by simp [Hu.nx, Hu.lastOf]) hx
              | cons d r => exact ⟨d, r, rfl⟩
            have hla : S.la = (d : Int) := HI.out.la
            have hnx : Hu.nx T.o L S.la = T.o d := by rw [hla, Hu.nx, if_neg (by omega)]; simp
            have hdn := HI.out.gb d List.mem_cons_self
            have ho1 : T.o d = -1 := by
              rcases HT.out.ow.is d hdn with h | h
              · exact h
              · rw [hnx] at hx; omega
            have hS : Hu.run C n T.o L n (Hu.start T.u T.v) = S := HR.out.trans (Hu.run_here (by omega))
            have HEU : Hid ((Hu.seek C n L T).u = S.u) := hide (by rw [Hu.seek, hS])
            have HEV : Hid ((Hu.seek C n L T).v = S.v) := hide (by rw [Hu.seek, hS])
            have HEO : Hid ((Hu.seek C n L T).o = Hu.back S.fr L (n + 1) T.o (Hu.lastOf (d :: r))) := hide (by rw [Hu.seek, hS, hla]; rfl)
            have hlen := HI.out.len
            have HCH := hide HI.out.ch
            have HGB := hide HI.out.gb
            rw [hnx, ho1, hla]
            clear HR HK hx hnx ho1 hS hla HCR m3 HI
            go_wp2_with fail
            go_loopg [17] n (fun gk s17 wi => ∃ (o : Hu.Fn) (t : List Nat) (k : Nat), s17 = .int .i64 (Hu.lastOf t) ∧ t.length ≤ gk ∧ Hid (t <:+ d :: r) ∧ Hid (t.length + 1 ≤ k) ∧ Hid (Hu.back S.fr L k o (Hu.lastOf t) = (Hu.seek C n L T).o) ∧ Hid (S6 w wi w0.heap.size M (some ⟨bc, oc, none⟩) n ce cap PU PV OW LS FR GN S.u S.v o S.ls S.fr S.gn))
            case atStart => exact ⟨T.o, d :: r, n + 1, rfl, hlen, hide (List.suffix_refl _), hide (by omega), hide HEO.out.symm, HS⟩
            case round =>
              clear HS
              obtain ⟨o, t, k, rfl, hgk, HSF, HKK, HBK, HS⟩ := hrel
              cases t with
              | nil =>
                have eo : o = (Hu.seek C n L T).o := by rw [← HBK.out]; exact Hu.back_off.symm
                have HP := hide HS.out.pu
                have HV := hide HS.out.pv
                have HO := hide HS.out.ow
                have HF := hide HS.out.off
                have HEO' := hide eo
                clear HS eo
                unfold Hu.lastOf
                go_wp2_with fail
                go_end0
                exact ⟨rfl, by rw [HEU.out]; exact HP.out, by rw [HEV.out]; exact HV.out, by rw [← HEO'.out]; exact HO.out, HF.out⟩
              | cons b t' =>
                have hbn := HGB.out b (HSF.out.subset List.mem_cons_self)
                have cf := HS.out.c_fr hbn
                have m3 := HS.out.m3
                obtain ⟨xo, cb⟩ := int_at (HS.out.c_ow hbn)
                have zb := HS.out.z_ow b
                obtain ⟨k', rfl⟩ : ∃ k', k = k' + 1 := ⟨k - 1, by have := HKK.out; omega⟩
                have hbk : Hu.back S.fr L (k' + 1) o ((b : Nat) : Int) = (Hu.seek C n L T).o := HBK.out
                rw [Hu.back_on] at hbk
                have b0 : (0 : Int) ≤ (b : Int) := by omega
                have b1 : (b : Int) < (n : Int) := by omega
                show _
                unfold Hu.lastOf
                simp only [List.length_cons] at hgk
                rcases (HCH.out b t' HSF.out).1 with e1 | ⟨f, hf, e1⟩
                · rw [e1] at cf hbk
                  rw [if_pos (by omega)] at hbk
                  have HA := hide (HS.out.set_ow (i := b) (L : Int) 0)
                  rw [drewN0] at HA
                  have cf2 := HA.out.c_fr hbn
                  rw [e1] at cf2
                  have HBK2 := hide hbk
                  clear HS hbk HBK e1
                  go_wp2_with fail
                  go_roundg 0
                  case measure => omega
                  case rel => exact ⟨_, [], k', rfl, Nat.zero_le _, hide (List.nil_suffix), hide (by have := HKK.out; simp at this; simp; omega), HBK2, HA⟩
                · have hfn := HGB.out f (HSF.out.subset (List.mem_cons_of_mem _ hf))
                  have f0 : (0 : Int) ≤ (f : Int) := by omega
                  have f1 : (f : Int) < (n : Int) := by omega
                  have f2 : ¬ (f : Int) < 0 := by omega
                  have co := HS.out.c_ow hfn
                  rw [e1] at cf hbk
                  rw [if_neg f2, Int.toNat_natCast] at hbk
                  have HA : Hid (∀ d, S6 w ((wr.drewN d).setCell ⟨OW, b, none⟩ (.int .i64 (o f))) w0.heap.size M (some ⟨bc, oc, none⟩) n ce cap PU PV OW LS FR GN S.u S.v (Hu.upd o b (o f)) S.ls S.fr S.gn) := hide fun d => HS.out.set_ow (i := b) (o f) d
                  have cf2 := (HA.out 0).c_fr hbn
                  rw [e1, drewN0] at cf2
                  have HBK2 := hide hbk
                  obtain ⟨p1, p2, hpp⟩ := List.append_of_mem hf
                  have hsuf : (f :: p2) <:+ t' := ⟨p1, hpp.symm⟩
                  have hl2 : (f :: p2).length ≤ t'.length := hsuf.length_le
                  have HSF2 := hide (List.IsSuffix.trans (List.IsSuffix.trans hsuf (List.suffix_cons b t')) HSF.out)
                  have HKK2 : Hid ((f :: p2).length + 1 ≤ k') := hide (by have := HKK.out; simp at this hl2 ⊢; omega)
                  clear HS hbk HBK e1 hpp hsuf
                  go_wp2_with fail
                  go_region
                  go_wp2_with fail
                  go_roundg (t'.length)
                  case measure => omega
                  case rel => exact ⟨_, f :: p2, k', rfl, hl2, HSF2, HKK2, HBK2, hide (HA.out 1)⟩
end Go.Proofs.Ytkebaklmkidfoaa
namespace Go.Proofs.Ytkebaklmkidfoaa
open Go.RowKit

namespace Hu
/-- Where each load has its bin, each bin has its load. -/
theorem Ow.all {n : Nat} {o : Fn} (h : Ow n o n) : ∀ b, b < n → 0 ≤ o b := by
  intro b hb
  rcases h.is b hb with e | e
  · exfalso
    have hd : (b :: (List.range n).map (fun i => binOf o n i)).Nodup := by
      rw [List.nodup_cons]
      refine ⟨fun hm => ?_, ?_⟩
      · obtain ⟨i, hi, e'⟩ := List.mem_map.1 hm
        have := (binOf_is h (List.mem_range.1 hi)).2
        rw [e'] at this; omega
      · rw [List.nodup_iff_pairwise_ne, List.pairwise_map]
        refine List.Pairwise.imp_of_mem ?_ (List.nodup_iff_pairwise_ne.1 List.nodup_range)
        intro i j hi hj hij e'
        have h1 := (binOf_is h (List.mem_range.1 hi)).2
        have h2 := (binOf_is h (List.mem_range.1 hj)).2
        rw [e'] at h1; omega
    have := hd.length_le_of_subset (l₂ := List.range n) (fun x hx => by
      rcases List.mem_cons.1 hx with rfl | hx
      · exact List.mem_range.2 hb
      · obtain ⟨i, hi, rfl⟩ := List.mem_map.1 hx
        exact List.mem_range.2 (binOf_is h (List.mem_range.1 hi)).1)
    simp at this
    omega
  · exact e.1
def outK (o : Fn) (n k : Nat) : Fn := fun i => if binOf o n i < k then ((binOf o n i : Nat) : Int) else 0
theorem outK_set {o : Fn} {n k : Nat} (h : Ow n o n) (hk : k < n) {i : Nat} (hi : i < n) : upd (outK o n k) (o k).toNat (k : Int) i = outK o n (k + 1) i := by
  have h0 := h.all k hk
  by_cases e : i = (o k).toNat
  · have : binOf o n i = k := binOf_eq h hk (by omega)
    rw [e, upd_same, outK, ← e, this, if_pos (by omega)]
  · rw [upd_else _ _ e]
    have h2 := (binOf_is h hi).2
    have : binOf o n i ≠ k := fun e' => by rw [e'] at h2; omega
    simp only [outK, show (binOf o n i < k + 1 ↔ binOf o n i < k) by omega]
end Hu
/-- The model's fit before its loads: its variable, its prices, its owners so far. -/
structure LF (w0 wr : World) (M : Nat) (e : Option Addr) (n ce PU PV : Nat) (v : Value) (k : Nat) : Prop where
  b0 : Below w0.heap.size w0 wr
  c0 : wr.cell? ⟨M, 0, none⟩ = some (.slice e n ce)
  c1 : wr.cell? ⟨M, 1, none⟩ = some (.slice (some ⟨PU, 0, none⟩) n n)
  c2 : wr.cell? ⟨M, 2, none⟩ = some (.slice (some ⟨PV, 0, none⟩) n n)
  c3 : wr.cell? ⟨M, 3, none⟩ = some v
  z3 : wr.frozen? ⟨M, 3, none⟩ = false
  pu : wr.ownsRow w0.heap.size 3 1 (.slice (some ⟨PU, 0, none⟩) n n) n (ints (List.replicate n 0))
  pv : wr.ownsRow w0.heap.size 3 1 (.slice (some ⟨PV, 0, none⟩) n n) n (ints (List.replicate n 0))
  ow : wr.ownsRow w0.heap.size 3 1 v k (ints (List.replicate k (-1)))
  n1 : M ≠ PU
  n2 : M ≠ PV
  n3 : PU ≠ PV
  v0 : v.ownBlock ≠ some M
  v1 : v.ownBlock ≠ some PU
  v2 : v.ownBlock ≠ some PV
  lo : w0.heap.size ≤ M
  lt : M < wr.heap.size
theorem LF.push {w0 wr w3 : World} {M n ce PU PV k g cap : Nat} {e : Option Addr} {v : Value} {o : Obj} (h : LF w0 wr M e n ce PU PV v k) (own : w3.ownsRow w0.heap.size 3 1 (.slice (some ⟨g, 0, none⟩) (k + 1) cap) (k + 1) (ints (List.replicate k (-1)) ++ [.int .i64 (-1)])) (hg : (wr.alloc o).grownBy w3 v.ownBlock) (hat : v.ownBlock = some g ∨ g = wr.heap.size + 1) :
    w3.cell? ⟨M, 3, none⟩ = some v ∧ w3.frozen? ⟨M, 3, none⟩ = false ∧ LF w0 (w3.setCell ⟨M, 3, none⟩ (.slice (some ⟨g, 0, none⟩) (k + 1) cap)) M e n ce PU PV (.slice (some ⟨g, 0, none⟩) (k + 1) cap) (k + 1) := by
  have kp : ∀ b, b < wr.heap.size → some b ≠ v.ownBlock → w3.heap[b]? = wr.heap[b]? := fun b hb hne => (hg.block b (by simp; omega) hne).trans ((below_new wr o).block b hb)
  have hs3 : wr.heap.size ≤ w3.heap.size := Nat.le_trans (by simp) hg.size
  have lpu := (h.pu.lt PU rfl).2
  have lpv := (h.pv.lt PV rfl).2
  have hM := kp M h.lt (fun e => h.v0 e.symm)
  have cM : ∀ i vv, wr.cell? ⟨M, i, none⟩ = some vv → w3.cell? ⟨M, i, none⟩ = some vv := fun i vv hv => (World.cell?_of_block (w := wr) (a := ⟨M, i, none⟩) hM).trans hv
  have gM : g ≠ M := by
    rcases hat with e | e
    · intro h'; subst h'; exact h.v0 e
    · have := h.lt; omega
  have gU : g ≠ PU := by
    rcases hat with e | e
    · intro h'; subst h'; exact h.v1 e
    · omega
  have gV : g ≠ PV := by
    rcases hat with e | e
    · intro h'; subst h'; exact h.v2 e
    · omega
  have z3 : w3.frozen? ⟨M, 3, none⟩ = false := (World.frozen?_of_block (w := wr) (a := ⟨M, 3, none⟩) hM).trans h.z3
  have oth : ∀ b, b ≠ M → (w3.setCell ⟨M, 3, none⟩ (.slice (some ⟨g, 0, none⟩) (k + 1) cap)).heap[b]? = w3.heap[b]? := fun b hb => Below.heap_setCell _ _ _ _ hb
  have c3' := cM 3 _ h.c3
  have c0' := cM 0 _ h.c0
  have c1' := cM 1 _ h.c1
  have c2' := cM 2 _ h.c2
  have bw : Below w0.heap.size w0 w3 := h.b0.trans (((below_new wr o).mono h.b0.size).trans (grown_under' hg (h.ow.alloc _) (by have := h.b0.size; simp <;> omega) (by have := h.b0.size; simp <;> omega)))
  refine ⟨c3', z3, bw.setCell (p := ⟨M, 3, none⟩) h.lo _, by simp [go_sem, *], by simp [go_sem, *], by simp [go_sem, *], by simp [go_sem, *], by simp [go_sem, *], ?_, ?_, ?_, h.n1, h.n2, h.n3, by simp [Value.ownBlock]; exact gM, by simp [Value.ownBlock]; exact gU, by simp [Value.ownBlock]; exact gV, h.lo, by simpa using Nat.lt_of_lt_of_le h.lt hs3⟩
  · exact own_blk h.pu fun b hb => by simp [Value.ownBlock] at hb; subst hb; exact (oth _ (Ne.symm h.n1)).trans (kp _ lpu (fun e => h.v1 e.symm))
  · exact own_blk h.pv fun b hb => by simp [Value.ownBlock] at hb; subst hb; exact (oth _ (Ne.symm h.n2)).trans (kp _ lpv (fun e => h.v2 e.symm))
  · rw [List.replicate_succ', ints_snoc]
    exact own_blk own fun b hb => by simp [Value.ownBlock] at hb; subst hb; exact oth _ gM
theorem LF.start {w0 : World} {X n ce PU PV : Nat} {e : Option Addr} (t : TypeId) (hX : w0.heap.size = X) (hn : n ≤ 10) (h : (PU = X ∧ PV = X + 1) ∨ (PU = X + 1 ∧ PV = X)) :
    LF w0 (((w0.alloc (.cells (madeCells #[.int .i64 0] n) 3)).alloc (.cells (madeCells #[.int .i64 0] n) 3)).alloc (.cells #[.slice e n ce, .slice (some ⟨PU, 0, none⟩) n n, .slice (some ⟨PV, 0, none⟩) n n, .slice none 0 0] t)).drew (X + 1 + 1) e n ce PU PV (.slice none 0 0) 0 := by
  have b1 := below_new w0 (.cells (madeCells #[.int .i64 0] n) 3)
  have o1 := made_own w0 n (by omega)
  have s1 : (w0.alloc (.cells (madeCells #[.int .i64 0] n) 3)).heap.size = X + 1 := by rw [World.size_alloc, hX]
  generalize w0.alloc (.cells (madeCells #[.int .i64 0] n) 3) = w1 at *
  have b2 := below_new w1 (.cells (madeCells #[.int .i64 0] n) 3)
  have o2 := made_own w1 n (by omega)
  have s2 : (w1.alloc (.cells (madeCells #[.int .i64 0] n) 3)).heap.size = X + 1 + 1 := by rw [World.size_alloc, s1]
  generalize w1.alloc (.cells (madeCells #[.int .i64 0] n) 3) = w2 at *
  have b3 := (below_new w2 (.cells #[.slice e n ce, .slice (some ⟨PU, 0, none⟩) n n, .slice (some ⟨PV, 0, none⟩) n n, .slice none 0 0] t)).drew
  rw [s1] at o2
  rw [hX] at o1
  have p1 := own_low9 (g_own (g_own o1 (b2.mono (Nat.le_refl _))) b3) (Nat.le_refl _)
  have p2 := own_low9 (g_own o2 b3) (show X ≤ X + 1 by omega)
  have hq : w2.heap.size = X + 1 + 1 := s2
  have e0 : (w2.alloc (.cells #[.slice e n ce, .slice (some ⟨PU, 0, none⟩) n n, .slice (some ⟨PV, 0, none⟩) n n, .slice none 0 0] t)).cell? ⟨w2.heap.size, 0, none⟩ = some (.slice e n ce) := by simp
  have e1 : (w2.alloc (.cells #[.slice e n ce, .slice (some ⟨PU, 0, none⟩) n n, .slice (some ⟨PV, 0, none⟩) n n, .slice none 0 0] t)).cell? ⟨w2.heap.size, 1, none⟩ = some (.slice (some ⟨PU, 0, none⟩) n n) := by simp
  have e2 : (w2.alloc (.cells #[.slice e n ce, .slice (some ⟨PU, 0, none⟩) n n, .slice (some ⟨PV, 0, none⟩) n n, .slice none 0 0] t)).cell? ⟨w2.heap.size, 2, none⟩ = some (.slice (some ⟨PV, 0, none⟩) n n) := by simp
  have e3 : (w2.alloc (.cells #[.slice e n ce, .slice (some ⟨PU, 0, none⟩) n n, .slice (some ⟨PV, 0, none⟩) n n, .slice none 0 0] t)).cell? ⟨w2.heap.size, 3, none⟩ = some (.slice none 0 0) := by simp
  have e4 : (w2.alloc (.cells #[.slice e n ce, .slice (some ⟨PU, 0, none⟩) n n, .slice (some ⟨PV, 0, none⟩) n n, .slice none 0 0] t)).frozen? ⟨w2.heap.size, 3, none⟩ = false := by simp
  rw [hq] at e0 e1 e2 e3 e4
  have e5 : X + 1 + 1 < (w2.alloc (.cells #[.slice e n ce, .slice (some ⟨PU, 0, none⟩) n n, .slice (some ⟨PV, 0, none⟩) n n, .slice none 0 0] t)).drew.heap.size := by
    show X + 1 + 1 < (w2.alloc _).heap.size
    rw [World.size_alloc, hq]; omega
  have bw := b1.trans ((b2.mono (by omega)).trans (b3.mono (by omega)))
  rcases h with ⟨rfl, rfl⟩ | ⟨rfl, rfl⟩
  · exact ⟨bw, e0, e1, e2, e3, e4, by rw [hX]; exact p1, by rw [hX]; exact p2, World.ownsRow_nil _ _ _ _, by omega, by omega, by omega, by simp [Value.ownBlock], by simp [Value.ownBlock], by simp [Value.ownBlock], by omega, e5⟩
  · exact ⟨bw, e0, e1, e2, e3, e4, by rw [hX]; exact p2, by rw [hX]; exact p1, World.ownsRow_nil _ _ _ _, by omega, by omega, by omega, by simp [Value.ownBlock], by simp [Value.ownBlock], by simp [Value.ownBlock], by omega, e5⟩
/-- What the model's fit answers: three lists of their own memory, in a world behind w0. -/
structure MF (w0 wr : World) (M : Nat) (e : Option Addr) (n ce cap PU PV OW : Nat) (u v o : Hu.Fn) : Prop where
  b0 : Below w0.heap.size w0 wr
  c0 : wr.cell? ⟨M, 0, none⟩ = some (.slice e n ce)
  c1 : wr.cell? ⟨M, 1, none⟩ = some (.slice (some ⟨PU, 0, none⟩) n n)
  c2 : wr.cell? ⟨M, 2, none⟩ = some (.slice (some ⟨PV, 0, none⟩) n n)
  c3 : wr.cell? ⟨M, 3, none⟩ = some (.slice (some ⟨OW, 0, none⟩) n cap)
  pu : wr.ownsRow w0.heap.size 3 1 (.slice (some ⟨PU, 0, none⟩) n n) n (ints (Hu.tab n u))
  pv : wr.ownsRow w0.heap.size 3 1 (.slice (some ⟨PV, 0, none⟩) n n) n (ints (Hu.tab n v))
  ow : wr.ownsRow w0.heap.size 3 1 (.slice (some ⟨OW, 0, none⟩) n cap) n (ints (Hu.tab n o))
  nd : [M, PU, PV, OW].Nodup
  lo : w0.heap.size ≤ M
  lt : M < wr.heap.size
theorem MF.start {w0 wr : World} {M n ce PU PV : Nat} {e : Option Addr} {v : Value} (C : List (List Int)) (h : LF w0 wr M e n ce PU PV v n) (hn : 1 ≤ n) : ∃ OW cap, v = .slice (some ⟨OW, 0, none⟩) n cap ∧ MF w0 wr M e n ce cap PU PV OW (Hu.fitTo C n 0).u (Hu.fitTo C n 0).v (Hu.fitTo C n 0).o := by
  obtain ⟨OW, cap, rfl⟩ : ∃ OW cap, v = .slice (some ⟨OW, 0, none⟩) n cap := by
    rcases h.ow.2 with ⟨h', _⟩ | ⟨g, cap, cur, hv, _⟩
    · have := own_form h.ow
      obtain ⟨a, c, rfl⟩ := this
      rcases h.ow.2 with ⟨_, h2⟩ | ⟨g, cap, cur, hv, _⟩
      · omega
      · exact ⟨g, cap, hv⟩
    · exact ⟨g, cap, hv⟩
  have q0 : Hu.tab n (fun _ => (-1 : Int)) = List.replicate n (-1) := by
    apply List.ext_getElem
    · simp [Hu.tab]
    · intro i h1 h2; simp [Hu.tab]
  have n4 : OW ≠ M := fun e => h.v0 (by rw [e]; rfl)
  have n5 : OW ≠ PU := fun e => h.v1 (by rw [e]; rfl)
  have n6 : OW ≠ PV := fun e => h.v2 (by rw [e]; rfl)
  have n1 := h.n1
  have n2 := h.n2
  have n3 := h.n3
  refine ⟨OW, cap, rfl, h.b0, h.c0, h.c1, h.c2, h.c3, ?_, ?_, ?_, ?_, h.lo, h.lt⟩
  · show wr.ownsRow _ _ _ _ _ (ints (Hu.tab n fun _ => 0)); rw [tab_zero]; exact h.pu
  · show wr.ownsRow _ _ _ _ _ (ints (Hu.tab n fun _ => 0)); rw [tab_zero]; exact h.pv
  · show wr.ownsRow _ _ _ _ _ (ints (Hu.tab n fun _ => -1)); rw [q0]; exact h.ow
  · simp only [List.nodup_cons, List.mem_cons, List.not_mem_nil, or_false, not_or, List.nodup_nil, and_true, not_false_eq_true]
    omega
theorem MF.more {w0 w w' : World} {M n ce cap PU PV OW : Nat} {e : Option Addr} {u v o u' v' o' : Hu.Fn} (h : MF w0 w M e n ce cap PU PV OW u v o) (ho : Off3 w w' OW PU PV) (opu : w'.ownsRow w0.heap.size 3 1 (.slice (some ⟨PU, 0, none⟩) n n) n (ints (Hu.tab n u'))) (opv : w'.ownsRow w0.heap.size 3 1 (.slice (some ⟨PV, 0, none⟩) n n) n (ints (Hu.tab n v'))) (oow : w'.ownsRow w0.heap.size 3 1 (.slice (some ⟨OW, 0, none⟩) n cap) n (ints (Hu.tab n o'))) : MF w0 w' M e n ce cap PU PV OW u' v' o' := by
  have nd := h.nd
  simp only [List.nodup_cons, List.mem_cons, List.not_mem_nil, or_false, not_or, List.nodup_nil, and_true, not_false_eq_true] at nd
  have hb := ho.block M h.lt (by omega) (by omega) (by omega)
  exact ⟨ho.under h.b0 (h.ow.lt OW rfl).1 (h.pu.lt PU rfl).1 (h.pv.lt PV rfl).1, (World.cell?_of_block (w := w) (a := ⟨M, 0, none⟩) hb).trans h.c0, (World.cell?_of_block (w := w) (a := ⟨M, 1, none⟩) hb).trans h.c1, (World.cell?_of_block (w := w) (a := ⟨M, 2, none⟩) hb).trans h.c2, (World.cell?_of_block (w := w) (a := ⟨M, 3, none⟩) hb).trans h.c3, opu, opv, oow, h.nd, h.lo, Nat.lt_of_lt_of_le h.lt ho.size⟩
theorem MF.below {w0 w w' : World} {M n ce cap PU PV OW : Nat} {e : Option Addr} {u v o : Hu.Fn} (h : MF w0 w M e n ce cap PU PV OW u v o) (hb : Below w.heap.size w w') : MF w0 w' M e n ce cap PU PV OW u v o :=
  ⟨h.b0.trans (hb.mono h.b0.size), (hb.cell (p := ⟨M, 0, none⟩) h.lt).trans h.c0, (hb.cell (p := ⟨M, 1, none⟩) h.lt).trans h.c1, (hb.cell (p := ⟨M, 2, none⟩) h.lt).trans h.c2, (hb.cell (p := ⟨M, 3, none⟩) h.lt).trans h.c3, g_own h.pu hb, g_own h.pv hb, g_own h.ow hb, h.nd, h.lo, Nat.lt_of_lt_of_le h.lt hb.size⟩
theorem MF.grown {w0 w w' : World} {M n ce cap PU PV OW OT : Nat} {e : Option Addr} {u v o : Hu.Fn} (h : MF w0 w M e n ce cap PU PV OW u v o) (hb : w.grownBy w' (some OT)) (l0 : w0.heap.size ≤ OT) (l1 : M < OT) (l2 : PU < OT) (l3 : PV < OT) (l4 : OW < OT) : MF w0 w' M e n ce cap PU PV OW u v o :=
  have bk : ∀ b, b < OT → b < w.heap.size → w'.heap[b]? = w.heap[b]? := fun b h1 h2 => hb.block b h2 (by simp; omega)
  have bM := bk M l1 h.lt
  ⟨h.b0.trans ⟨hb.os, hb.tape, hb.output, hb.size, fun b hb' => bk b (by omega) (Nat.lt_of_lt_of_le hb' h.b0.size)⟩, (World.cell?_of_block (w := w) (a := ⟨M, 0, none⟩) bM).trans h.c0, (World.cell?_of_block (w := w) (a := ⟨M, 1, none⟩) bM).trans h.c1, (World.cell?_of_block (w := w) (a := ⟨M, 2, none⟩) bM).trans h.c2, (World.cell?_of_block (w := w) (a := ⟨M, 3, none⟩) bM).trans h.c3,
   own_blk h.pu (fun g hg => bk g (by simp [Value.ownBlock] at hg; omega) (h.pu.lt g hg).2), own_blk h.pv (fun g hg => bk g (by simp [Value.ownBlock] at hg; omega) (h.pv.lt g hg).2), own_blk h.ow (fun g hg => bk g (by simp [Value.ownBlock] at hg; omega) (h.ow.lt g hg).2), h.nd, h.lo, Nat.lt_of_lt_of_le h.lt hb.size⟩
theorem CfO.of {w w0 wr : World} {FT PU PV n d : Nat} {C : List (List Int)} (hb : Below w.heap.size w w0) (b0 : Below w0.heap.size w0 wr) (hs : w0.heap.size = w.heap.size + 1) (oft : wr.ownsRow w0.heap.size 3 1 (.slice (some ⟨FT, 0, none⟩) n n) n (ints (Hu.fitL C n))) (opu : wr.ownsRow w0.heap.size 3 1 (.slice (some ⟨PU, 0, none⟩) n n) n (ints (Hu.loadsL C n))) (opv : wr.ownsRow w0.heap.size 3 1 (.slice (some ⟨PV, 0, none⟩) n n) n (ints (Hu.binsL C n))) (n1 : FT ≠ PU) (n2 : FT ≠ PV) (n3 : PU ≠ PV) (a b : Value) :
    CfO w (((wr.drewN d).setCell ⟨w.heap.size, 0, none⟩ a).setCell ⟨w.heap.size, 1, none⟩ b) n FT PU PV C := by
  have hd := below_drewN (Below.refl wr.heap.size wr) d
  have ob : ∀ g, g ≠ w.heap.size → (((wr.drewN d).setCell ⟨w.heap.size, 0, none⟩ a).setCell ⟨w.heap.size, 1, none⟩ b).heap[g]? = (wr.drewN d).heap[g]? := fun g hg => (Below.heap_setCell _ _ _ _ hg).trans (Below.heap_setCell _ _ _ _ hg)
  have l1 := (oft.lt FT rfl).1
  have l2 := (opu.lt PU rfl).1
  have l3 := (opv.lt PV rfl).1
  refine ⟨((hb.trans ((b0.mono (by omega)).trans (hd.mono (Nat.le_trans hb.size b0.size)))).setCell (p := ⟨w.heap.size, 0, none⟩) (Nat.le_refl _) _).setCell (p := ⟨w.heap.size, 1, none⟩) (Nat.le_refl _) _, ?_, ?_, ?_, n1, n2, n3⟩
  · exact own_low9 (own_blk (g_own oft hd) fun g hg => ob g (by simp [Value.ownBlock] at hg; omega)) (by omega)
  · exact own_low9 (own_blk (g_own opu hd) fun g hg => ob g (by simp [Value.ownBlock] at hg; omega)) (by omega)
  · exact own_low9 (own_blk (g_own opv hd) fun g hg => ob g (by simp [Value.ownBlock] at hg; omega)) (by omega)
set_option maxRecDepth 20000 in
set_option maxHeartbeats 8000000 in
theorem lfit_any {e : Option Addr} {n ce : Nat} {C : List (List Int)} {w : World} (hg : Hu.costB C = true) (hl : C.length = n) (hc : CRow w e C) :
    Calls Try.prog 29 #[.slice e n ce] w fun e w' => ∃ FT PU PV, e = .returned (.tuple #[.slice (some ⟨FT, 0, none⟩) n n, .agg #[.slice (some ⟨PU, 0, none⟩) n n, .slice (some ⟨PV, 0, none⟩) n n]]) ∧ CfO w w' n FT PU PV C := by
  have gl := Hu.costB_len hg
  rw [hl] at gl
  obtain ⟨n1, n10⟩ := gl
  have hG := Hu.costB_good hg
  rw [hl] at hG
  have HG := hide hg
  have HN := hide hl
  have HGd := hide hG
  have bn0 := below_new w (.cells #[.slice none 0 0, .slice none 0 0] 27)
  have hc1 := hc.below bn0
  have r0 : (w.alloc (.cells #[.slice none 0 0, .slice none 0 0] 27)).cell? ⟨w.heap.size, 0, none⟩ = some (.slice none 0 0) := by simp
  have r1 : (w.alloc (.cells #[.slice none 0 0, .slice none 0 0] 27)).cell? ⟨w.heap.size, 1, none⟩ = some (.slice none 0 0) := by simp
  have r2 : (w.alloc (.cells #[.slice none 0 0, .slice none 0 0] 27)).frozen? ⟨w.heap.size, 0, none⟩ = false := by simp
  have r3 : (w.alloc (.cells #[.slice none 0 0, .slice none 0 0] 27)).frozen? ⟨w.heap.size, 1, none⟩ = false := by simp
  have hs0 : (w.alloc (.cells #[.slice none 0 0, .slice none 0 0] 27)).heap.size = w.heap.size + 1 := World.size_alloc _ _
  obtain ⟨w0, hw0⟩ : ∃ w0, w0 = w.alloc (.cells #[.slice none 0 0, .slice none 0 0] 27) := ⟨_, rfl⟩
  rw [← hw0] at bn0 hc1 r0 r1 r2 r3 hs0
  have HW0 := hide hw0.symm
  have HB0 := hide bn0
  have HC1 := hide hc1
  clear bn0 hc hc1 hw0 hg hl hG
  have hmk := makeI_run n (by omega)
  go_enter Try.func29, Try.ntmps29
  go_upto_region 1 with fail
  rw [HW0.out]
  clear HW0
  go_upto_region 2 with fail
  go_cut [5, 12, 13, 14, 15, 16, 17, 18, 19] (fun s5 _ _ _ _ _ _ _ _ wc => ∃ M PU PV, s5 = .pointer (some ⟨M, 0, none⟩) ∧ Hid (LF w0 wc M e n ce PU PV (.slice none 0 0) 0))
  case first =>
    have HL1 := hide (LF.start (e := e) (ce := ce) (n := n) (PU := w.heap.size + 1) (PV := w.heap.size + 1 + 1) 89 hs0 n10 (Or.inl ⟨rfl, rfl⟩))
    have HL2 := hide (LF.start (e := e) (ce := ce) (n := n) (PU := w.heap.size + 1 + 1) (PV := w.heap.size + 1) 89 hs0 n10 (Or.inr ⟨rfl, rfl⟩))
    go_region
    all_goals go_wp2_with fail
    all_goals go_meet
    all_goals first | exact ⟨_, _, _, rfl, HL1⟩ | exact ⟨_, _, _, rfl, HL2⟩
  case rest =>
    obtain ⟨M, PU, PV, rfl, HLF0⟩ := hcut
    go_wp2_with fail
    go_loopw [22] (fun s wr => ∃ (k : Nat) (v : Value), s = .int .i64 k ∧ k ≤ n ∧ Hid (LF w0 wr M e n ce PU PV v k)) (fun s _ => n - (intOf s).toNat)
    case atStart => exact ⟨0, _, rfl, Nat.zero_le _, HLF0⟩
    case round =>
      clear HLF0
      obtain ⟨k, v, rfl, hk, HL⟩ := hrel
      by_cases hlt : k < n
      · have i1 : (k : Int) < (n : Int) := by omega
        have c3 := HL.out.c3
        obtain ⟨g3, cap3, w3, hr3, own3, hg3, hat3⟩ := push_9 (t := 25) (x := .int .i64 (-1)) Try.underlying25 infoI rfl rfl (by decide) HL.out.ow (by omega) HL.out.b0.size
        obtain ⟨q3, y3, L3⟩ := HL.out.push own3 hg3 hat3
        have HL3 := hide L3
        have hov := own_one HL.out.ow
        clear HL L3 own3 hg3 hat3
        go_wp2_with (first | (at_builtin; refine Lib.wpList_append_run _ rfl _ _ _ _ rfl _ _ rfl rfl _ _ (hr3 _) ?_))
        go_roundw
        case rel => exact ⟨k + 1, _, by go_num, by omega, HL3⟩
        case measure => simp only [intOf]; omega
      · have i1 : ¬ (k : Int) < (n : Int) := by omega
        have hke : k = n := by omega
        obtain ⟨OW, cap, rfl, hMF⟩ := MF.start C (hke ▸ HL.out) n1
        have HMF0 := hide hMF
        clear HL hMF hke hk hlt
        go_wp2_with fail
        clear i1
        go_loopw [6, 36] (fun _ s wr => ∃ (k : Nat), s = .int .i64 k ∧ k ≤ n ∧ Hid (MF w0 wr M e n ce cap PU PV OW (Hu.fitTo C n k).u (Hu.fitTo C n k).v (Hu.fitTo C n k).o)) (fun _ s _ => n - (intOf s).toNat)
        case atStart => exact ⟨0, rfl, Nat.zero_le _, HMF0⟩
        case round =>
          clear HMF0
          obtain ⟨k, rfl, hk, HF⟩ := hrel
          by_cases hlt : k < n
          · have i0 : (0 : Int) ≤ (k : Int) := by omega
            have i1 : (k : Int) < (n : Int) := by omega
            have HSK := hide (seek_any HG.out HN.out hlt (Hu.fit_ou HGd.out k hk) HGd.out HC1.out HF.out.b0 HF.out.nd HF.out.lt HF.out.c0 HF.out.c1 HF.out.c2 HF.out.c3 HF.out.pu HF.out.pv HF.out.ow)
            go_wp2_with fail
            refine HSK.out.mono ?_
            rintro e2 w2 ⟨rfl, h1, h2, h3, h4⟩
            have HCN : Hid (MF w0 w2 M e n ce cap PU PV OW (Hu.fitTo C n (k + 1)).u (Hu.fitTo C n (k + 1)).v (Hu.fitTo C n (k + 1)).o) := hide (HF.out.more h4 h1 h2 h3)
            clear h1 h2 h3 h4 HSK HF
            go_wp2_with fail
            go_roundw
            case rel => exact ⟨k + 1, by go_num, by omega, HCN⟩
            case measure => simp only [intOf]; omega
          · have i1 : ¬ (k : Int) < (n : Int) := by omega
            have hke : k = n := by omega
            subst hke
            have HOA := hide (Hu.fit_ou HGd.out k (Nat.le_refl _)).ow
            have HFL : Hid (∀ i, i < k → Hu.outK (Hu.fitTo C k k).o k k i = ((Hu.binOf (Hu.fitTo C k k).o k i : Nat) : Int)) := hide fun i hi => by rw [Hu.outK, if_pos (Hu.binOf_is HOA.out hi).1]
            have bO := below_new wr (.cells (madeCells #[.int .i64 0] k) 3)
            have HOO : Hid ((wr.alloc (.cells (madeCells #[.int .i64 0] k) 3)).ownsRow w0.heap.size 3 1 (.slice (some ⟨wr.heap.size, 0, none⟩) k k) k (ints (Hu.tab k (Hu.outK (Hu.fitTo C k k).o k 0)))) := hide (by
              have : Hu.tab k (Hu.outK (Hu.fitTo C k k).o k 0) = List.replicate k 0 := by rw [← tab_zero]; exact tab_congr fun i _ => by simp [Hu.outK]
              rw [this]
              exact own_low9 (made_own wr k (by omega)) HF.out.b0.size)
            have hM := HF.out.lt
            have lU := (HF.out.pu.lt PU rfl).2
            have lV := (HF.out.pv.lt PV rfl).2
            have lW := (HF.out.ow.lt OW rfl).2
            have HF5 := hide (HF.out.below bO)
            have l0 := HF.out.b0.size
            have c3 := (bO.cell (p := ⟨M, 3, none⟩) hM).trans HF.out.c3
            have hmk' := makeI_run k (by omega)
            have HGR0 : Hid ((wr.alloc (.cells (madeCells #[.int .i64 0] k) 3)).grownBy (wr.alloc (.cells (madeCells #[.int .i64 0] k) 3)) (some wr.heap.size)) := hide (World.grownBy.refl _ _)
            go_wp2_with fail
            generalize wr.alloc (.cells (madeCells #[.int .i64 0] k) 3) = W5 at *
            obtain ⟨OT, hOT⟩ : ∃ OT, OT = wr.heap.size := ⟨_, rfl⟩
            rw [← hOT] at HOO HGR0 hM lU lV lW l0 ⊢
            clear hOT hmk hmk' HF c3 i1 bO
            go_loopw [8, 9, 50] (fun _ _ s wi => ∃ (q : Nat), s = .int .i64 q ∧ q ≤ k ∧ Hid (wi.ownsRow w0.heap.size 3 1 (.slice (some ⟨OT, 0, none⟩) k k) k (ints (Hu.tab k (Hu.outK (Hu.fitTo C k k).o k q)))) ∧ Hid (W5.grownBy wi (some OT))) (fun _ _ s _ => k - (intOf s).toNat)
            case atStart => exact ⟨0, rfl, Nat.zero_le _, HOO, HGR0⟩
            case round =>
              clear HOO HGR0
              obtain ⟨q, rfl, hq, HO, HGR⟩ := hrel
              have HFq := hide (HF5.out.grown HGR.out l0 hM lU lV lW)
              by_cases hlt2 : q < k
              · have i0 : (0 : Int) ≤ (q : Int) := by omega
                have i1 : (q : Int) < (k : Int) := by omega
                have h0 := HOA.out.all q hlt2
                obtain ⟨j, ej⟩ : ∃ j : Nat, (Hu.fitTo C k k).o q = (j : Int) := ⟨((Hu.fitTo C k k).o q).toNat, by omega⟩
                have ej' : ((Hu.fitTo C k k).o q).toNat = j := by omega
                have hj : j < k := by
                  rcases HOA.out.is q hlt2 with e | e <;> omega
                have co : wr.cell? ⟨OW, q, none⟩ = some (.int .i64 (j : Int)) := by rw [HFq.out.ow.cellAt q (by omega), ints_get _ q (by rw [Hu.tab_len]; exact hlt2), Hu.tab_get _ hlt2, ej]
                obtain ⟨x0, c0⟩ : ∃ x, wr.cell? ⟨OT, j, none⟩ = some (.int .i64 x) := ⟨_, by rw [HO.out.cellAt j (by omega), ints_get _ j (by rw [Hu.tab_len]; exact hj)]⟩
                have z0 := HO.out.frozenAt j
                obtain ⟨st1, st2⟩ := HO.out.stored j (.int .i64 (q : Int))
                have HST : Hid ((wr.setCell ⟨OT, j, none⟩ (.int .i64 (q : Int))).ownsRow w0.heap.size 3 1 (.slice (some ⟨OT, 0, none⟩) k k) k (ints (Hu.tab k (Hu.outK (Hu.fitTo C k k).o k (q + 1))))) := hide (by
                  rw [ints_set, tab_set, ← ej', tab_congr (fun i hi => Hu.outK_set HOA.out hlt2 hi)] at st1
                  exact ej' ▸ st1)
                have HG2 : Hid (W5.grownBy (wr.setCell ⟨OT, j, none⟩ (.int .i64 (q : Int))) (some OT)) := hide ⟨st2.os.trans HGR.out.os, st2.tape.trans HGR.out.tape, st2.output.trans HGR.out.output, Nat.le_trans HGR.out.size st2.size, fun b hb hne => (st2.block b (Nat.lt_of_lt_of_le hb HGR.out.size) hne).trans (HGR.out.block b hb hne)⟩
                have j0 : (0 : Int) ≤ (j : Int) := by omega
                have j1 : (j : Int) < (k : Int) := by omega
                clear HO HGR HFq st1 st2 ej ej' h0
                go_wp2_with fail
                go_roundw
                case rel => exact ⟨q + 1, by go_num, by omega, HST, HG2⟩
                case measure => simp only [intOf]; omega
              · have i1 : ¬ (q : Int) < (k : Int) := by omega
                have hqe : q = k := by omega
                subst hqe
                have c1 := HFq.out.c1
                have c2 := HFq.out.c2
                have hR : w.heap.size < w0.heap.size := by omega
                have hRM : M ≠ w.heap.size := by have := HFq.out.lo; omega
                have q0 := (HFq.out.b0.cell (p := ⟨w.heap.size, 0, none⟩) hR).trans r0
                have q1 := (HFq.out.b0.cell (p := ⟨w.heap.size, 1, none⟩) hR).trans r1
                have q2 := (HFq.out.b0.frozen (p := ⟨w.heap.size, 0, none⟩) hR).trans r2
                have q3 := (HFq.out.b0.frozen (p := ⟨w.heap.size, 1, none⟩) hR).trans r3
                have HFT : Hid (wr.ownsRow w0.heap.size 3 1 (.slice (some ⟨OT, 0, none⟩) q q) q (ints (Hu.fitL C q))) := hide (by
                  have := HO.out
                  rw [tab_congr HFL.out] at this
                  exact this)
                have nd := HFq.out.nd
                simp only [List.nodup_cons, List.mem_cons, List.not_mem_nil, or_false, not_or, List.nodup_nil, and_true, not_false_eq_true] at nd
                have HEND := hide fun d : Nat => CfO.of (d := d) (C := C) HB0.out HFq.out.b0 hs0 HFT.out HFq.out.pu HFq.out.pv (by omega) (by omega) (by omega) (.slice (some ⟨PU, 0, none⟩) q q) (.slice (some ⟨PV, 0, none⟩) q q)
                clear HFq HO HGR HFT nd r0 r1 r2 r3
                go_wp2_with fail
                go_region
                go_wp2_with fail
                exact bodyPost_ret (v := .tuple #[.slice (some ⟨OT, 0, none⟩) q q, .agg #[.slice (some ⟨PU, 0, none⟩) q q, .slice (some ⟨PV, 0, none⟩) q q]]) (by simp [results, Try.results29, go_sem, *]) rfl ⟨OT, PU, PV, rfl, HEND.out 1⟩
end Go.Proofs.Ytkebaklmkidfoaa
namespace Go.Proofs
open Go.Shelf
def Try.lays212_ren : Go.Shelf.Ren := ⟨fun | 212 => 49 | 263 => 64 | 264 => 65 | n => n, fun | 46 => 75 | 51 => 90 | 146 => 91 | 53 => 68 | 148 => 93 | n => n, fun | n => n⟩
theorem Try.lays212 : Go.Proofs.Lays.n212 Try.prog Try.lays212_ren := {
  mixed := by kernel_rfl
  f212 := Try.func49.trans (congrArg some (by kernel_rfl))
  f263 := Try.func64.trans (congrArg some (by kernel_rfl))
  f264 := Try.func65.trans (congrArg some (by kernel_rfl))
  t46 := Try.underlying75
  a46 := Try.isAgg75
  z46 := Try.sizeOf75
  v46 := Try.zeroValue75
  t51 := Try.underlying90
  a51 := Try.isAgg90
  z51 := Try.sizeOf90
  v51 := Try.zeroValue90
  t53 := Try.underlying68
  a53 := Try.isAgg68
  z53 := Try.sizeOf68
  v53 := Try.zeroValue68
  t146 := Try.underlying91
  a146 := Try.isAgg91
  z146 := Try.sizeOf91
  v146 := Try.zeroValue91
  t148 := Try.underlying93
  a148 := Try.isAgg93
  z148 := Try.sizeOf93
  v148 := Try.zeroValue93 }
open Go.RowKit Go.Lib in
theorem Try.bits_Mul (x y : Nat) (hx : x < 18446744073709551616) (hy : y < 18446744073709551616) (w : World) :
    Calls Try.prog 49 #[.int .u64 x, .int .u64 y] w fun e w' => e = .returned (.tuple #[.int .u64 ((x * y / 18446744073709551616 : Nat) : Int), .int .u64 ((x * y % 18446744073709551616 : Nat) : Int)]) ∧ w' = w := Any.bits_Mul Try.lays212 x y hx hy w
end Go.Proofs
namespace Go.Proofs.Ytkebaklmkidfoaa
open Go.RowKit

/-- The first k of n are -1. -/
def mixN (n k : Nat) : List Int := List.replicate k (-1) ++ List.replicate (n - k) 0
theorem mixN_len (n k : Nat) (h : k ≤ n) : (mixN n k).length = n := by simp [mixN]; omega
theorem mixN_zero (n : Nat) : mixN n 0 = List.replicate n 0 := by simp [mixN]
theorem mixN_all (n : Nat) : mixN n n = List.replicate n (-1) := by simp [mixN]
theorem mixN_get {n k j : Nat} (h : j < k) (hk : k ≤ n) : (ints (mixN n k))[j]? = some (.int .i64 (-1)) := by
  rw [ints_get _ j (by rw [mixN_len n k hk]; omega)]
  simp [mixN, List.getElem?_append, h]
theorem mixN_copy {n k j : Nat} (_hj : k + j ≤ n) : (ints (mixN n k)).take k ++ ints (List.replicate j (-1)) ++ (ints (mixN n k)).drop (k + j) = ints (mixN n (k + j)) := by
  have e1 : (ints (mixN n k)).take k = ints (List.replicate k (-1)) := by simp [mixN, ints]
  have e2 : (ints (mixN n k)).drop (k + j) = ints (List.replicate (n - (k + j)) 0) := by
    unfold ints mixN
    rw [← List.map_drop, List.drop_append, List.drop_of_length_le (by simp)]
    simp; omega
  rw [e1, e2]
  unfold mixN ints
  rw [← List.map_append, ← List.map_append, List.replicate_append_replicate]
/-- What is copied from the front of a list to behind it, or from another list. -/
theorem cp_own {w : World} {base X n k j : Nat} {a : Addr} {sL sC : Nat} (hj : k + j ≤ n) (hmin : j = Nat.min sL (n - k)) (hX : w.ownsRow base 3 1 (.slice (some ⟨X, 0, none⟩) n n) n (ints (mixN n k))) (hs : ∀ i, i < j → w.cell? (a.add i) = some (.int .i64 (-1))) :
    ∃ w', (∀ ty, (Builtin.copy_ #[25, 25] ty #[.slice (some ⟨X, k, none⟩) (n - k) (n - k), .slice (some a) sL sC]).run Try.prog w = .ok (.int .i64 (j : Int)) w') ∧ w'.ownsRow base 3 1 (.slice (some ⟨X, 0, none⟩) n n) n (ints (mixN n (k + j))) ∧ w.grownBy w' (some X) := by
  rcases hX.2 with ⟨h, _⟩ | ⟨g, cap, cur, hv, hb, hg, hnc, hcm, hcs, htake⟩
  · cases h
  cases hv
  have hsz : (Try.prog.info? 3).map (·.size) = some 1 := by kernel_rfl
  have hl : (ints (List.replicate j (-1))).length = j := by simp [ints]
  have hrun := fun ty => run_copy_row (P := Try.prog) w 25 25 ty 3 X k (n - k) (n - k) a sL sC cur 3 (ints (List.replicate j (-1))) Try.underlying25 hsz hg (by rw [hl]; exact hmin) (fun i v hi => by
    have hij : i < j := by have := (List.getElem?_eq_some_iff.1 hi).1; omega
    have : v = .int .i64 (-1) := by simpa [ints, hij] using hi.symm
    rw [this]; exact hs i hij) (by rw [hl]; omega) (c_ints _)
  have hcur : cur.toList = ints (mixN n k) := by
    rw [← htake, List.take_of_length_le (by simp; omega)]
  rw [hl, hcur, mixN_copy hj] at hrun
  refine ⟨w.setRow X (ints (mixN n (k + j))).toArray, hrun, ⟨by simp [ints, mixN_len n (k + j) hj], .inr ⟨X, n, _, rfl, hb, setRow_heap w X _ _ _ _ hg, hnc, hcm, ?_, ?_⟩⟩, ⟨rfl, rfl, rfl, by simp [World.setRow], fun k _ hne => setRow_other w X k _ (by simpa using hne)⟩⟩
  · simp [ints, mixN_len n (k + j) hj]
  · rw [List.take_of_length_le (by simp [ints, mixN_len n (k + j) hj])]
theorem mul_c (n : Nat) (hn : n ≤ 10) (w : World) : Calls Try.prog 49 #[.int .u64 1, .int .u64 (n : Int)] w fun e w' => e = .returned (.tuple #[.int .u64 0, .int .u64 (n : Int)]) ∧ w' = w := by
  have := Try.bits_Mul 1 n (by omega) (by omega) w
  rw [Nat.one_mul, Nat.div_eq_of_lt (by omega), Nat.mod_eq_of_lt (by omega)] at this
  exact this
set_option maxRecDepth 20000 in
set_option maxHeartbeats 400000 in
theorem rp_any {B n : Nat} {w : World} (hn : n ≤ 10) (hc : w.cell? ⟨B, 0, none⟩ = some (.int .i64 (-1))) (hB : B < w.heap.size) :
    Calls Try.prog 26 #[.slice (some ⟨B, 0, none⟩) 1 1, .int .i64 (n : Int)] w fun e w' => e = .returned (.slice (some ⟨w.heap.size, 0, none⟩) n n) ∧ Below w.heap.size w w' ∧ w'.ownsRow w.heap.size 3 1 (.slice (some ⟨w.heap.size, 0, none⟩) n n) n (ints (List.replicate n (-1))) := by
  have h1 : IntKind.u64.wrap (n : Int) = (n : Int) := by rw [IntKind.wrap_u64]; omega
  have h2 : IntKind.i64.wrap (n : Int) = (n : Int) := by rw [IntKind.wrap_i64]; omega
  have h3 : ¬ (9223372036854775807 : Int) < (n : Int) := by omega
  have h4 : ¬ (n : Int) < 0 := by omega
  have hmk := makeI_run n (by omega)
  have hM := made_own w n (by omega)
  rw [← mixN_zero] at hM
  have hcn : (w.alloc (.cells (madeCells #[.int .i64 0] n) 3)).cell? ⟨B, 0, none⟩ = some (.int .i64 (-1)) := ((below_new w _).cell (p := ⟨B, 0, none⟩) hB).trans hc
  obtain ⟨j0, hj0, hj1⟩ : ∃ j0, j0 = Nat.min 1 (n - 0) ∧ 0 + j0 ≤ n := ⟨_, rfl, by simp only [Nat.min_def]; split <;> omega⟩
  have hj2 : n = 0 ∨ 1 ≤ j0 := by simp only [Nat.min_def] at hj0; split at hj0 <;> omega
  obtain ⟨w1, hr1, own1, hg1⟩ := cp_own (a := ⟨B, 0, none⟩) (sL := 1) (sC := 1) hj1 hj0 hM (fun i hi => by
    have : i = 0 := by simp only [Nat.min_def] at hj0; split at hj0 <;> omega
    subst this
    rw [add_plain']; exact hcn)
  simp only [Nat.zero_add, Nat.sub_zero] at hr1 own1
  have HB1 := hide ((below_new w (.cells (madeCells #[.int .i64 0] n) 3)).trans (grown_below' hg1 (Nat.le_refl _) (by simp)))
  have HO1 := hide own1
  have HJ := hide hj2
  clear own1 hg1 hM hc hcn hj0 hj2
  go_enter Try.func26, Try.ntmps26
  go_wp2_with fail
  refine (mul_c n hn _).mono ?_
  rintro e w0 ⟨rfl, hw0⟩
  obtain rfl : w = w0 := hw0.symm
  go_wp2_with (first | (at_builtin; refine wpList_copy_run8 rfl _ _ _ _ rfl _ _ rfl rfl _ _ (hr1 _) ?_))
  clear hr1 hmk h1 h2 h4
  go_loopw [8] (fun s8 wr => ∃ (k : Nat), s8 = .int .i64 k ∧ k ≤ n ∧ Hid (n = 0 ∨ 1 ≤ k) ∧ Hid (wr.ownsRow w.heap.size 3 1 (.slice (some ⟨w.heap.size, 0, none⟩) n n) n (ints (mixN n k))) ∧ Hid (Below w.heap.size w wr)) (fun s _ => n - (intOf s).toNat)
  case atStart => exact ⟨j0, rfl, by omega, HJ, HO1, HB1⟩
  case round =>
    clear HO1 HB1 HJ
    obtain ⟨k, rfl, hk, HJ, HO, HB⟩ := hrel
    by_cases hlt : k < n
    · have k1 : 1 ≤ k := by have := HJ.out; omega
      have i0 : (0 : Int) ≤ (k : Int) := by omega
      have i1 : (k : Int) < (n : Int) := by omega
      have i2 : (k : Int) ≤ (n : Int) := by omega
      have i3 : ¬ k = n := by omega
      have i5 : ¬ n = k := by omega
      have i4 : ¬ (k : Int) = (n : Int) := by omega
      obtain ⟨j, hj, hj1⟩ : ∃ j, j = Nat.min k (n - k) ∧ k + j ≤ n := ⟨_, rfl, by simp only [Nat.min_def]; split <;> omega⟩
      have hj2 : 1 ≤ j := by simp only [Nat.min_def] at hj; split at hj <;> omega
      have hjk : j ≤ k := by simp only [Nat.min_def] at hj; split at hj <;> omega
      obtain ⟨w2, hr2, own2, hg2⟩ := cp_own (w := wr.drew) (a := ⟨w.heap.size, 0, none⟩) (sL := k) (sC := n) hj1 hj HO.out.drew (fun i hi => by
        rw [add_plain', Nat.zero_add, HO.out.drew.cellAt i (by omega)]
        exact mixN_get (by omega) hk)
      have HO2 := hide own2
      have HB2 := hide (HB.out.trans (grown_below' (w := wr) ⟨hg2.os, hg2.tape, hg2.output, hg2.size, hg2.block⟩ (Nat.le_refl _) HB.out.size))
      have w1 : IntKind.i64.wrap ((k : Int) + (j : Int)) = (k : Int) + (j : Int) := by rw [IntKind.wrap_i64]; omega
      have HR2 : Hid (∀ ty, (Builtin.copy_ #[25, 25] ty #[.slice (if n = k then some ⟨w.heap.size, 0, none⟩ else some ⟨w.heap.size, k, none⟩) (n - k) (n - k), .slice (some ⟨w.heap.size, 0, none⟩) k n]).run Try.prog wr.drew = .ok (.int .i64 (j : Int)) w2) := hide fun ty => by rw [if_neg i5]; exact hr2 ty
      clear own2 hg2 hj hr2 i5 i3
      go_wp2_with fail
      go_region_law ((refine step_copy_run (w := wr.drew) (by rfl) (.tmp 41) (.tmp 44) 25 25 (by rfl) (.slice (if n = k then some ⟨w.heap.size, 0, none⟩ else some ⟨w.heap.size, k, none⟩) (n - k) (n - k)) (.slice (some ⟨w.heap.size, 0, none⟩) k n) (by simp [go_sem]) (by simp [go_sem]) (.int .i64 (j : Int)) w2 (HR2.out _) ?_))
      go_wp2_with fail
      go_roundw
      case rel => exact ⟨k + j, by go_num, hj1, (by show n = 0 ∨ 1 ≤ k + j; omega), HO2⟩
      case measure => simp only [intOf]; omega
    · have hke : k = n := by omega
      subst hke
      have HF : Hid (wr.ownsRow w.heap.size 3 1 (.slice (some ⟨w.heap.size, 0, none⟩) k k) k (ints (List.replicate k (-1)))) := hide (by rw [← mixN_all]; exact HO.out)
      go_wp2_with fail
      go_ret
      exact ⟨rfl, HB.out, HF.out⟩
end Go.Proofs.Ytkebaklmkidfoaa
