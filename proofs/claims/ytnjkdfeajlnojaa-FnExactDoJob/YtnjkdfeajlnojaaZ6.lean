/-
  In one: Kt16, Ku16.
-/
import Derived.Test.YtnjkdfeajlnojaaZ5
import Derived.Deep.AppendLies
namespace Go.Proofs.Ytnjkdfeajlnojaa
open Go.RowKit

theorem app_none16 {W : World} {t e ty S s c c2 : Nat} {i0 : TypeInfo} {a av : Option Addr} {xs : List Value} (hu : Try.prog.underlying t = some (.slice e)) (hi : Try.prog.info? e = some i0) (ho : W.ownsRow S e s (.slice av 0 c) 0 xs) :
    (Builtin.append_ #[t, t] ty #[.slice av 0 c, .slice a 0 c2]).run Try.prog W = .ok (.slice av 0 c) W := by
  have l0 : ∀ ad, (loadCells ad 0).run Try.prog W = .ok #[] W := fun ad => rfl
  rcases ho.2 with ⟨h, _⟩ | ⟨g, cap, cur, h, _, _, _, _⟩
  · cases h
    cases a with
    | none => simp [Builtin.append_, run_underlying hu, sizeOf, typeInfo, hi, Builtin.lenOf, Builtin.firstCells]
    | some ad => simp [Builtin.append_, run_underlying hu, sizeOf, typeInfo, hi, Builtin.lenOf, Builtin.firstCells, l0]
  · cases h
    cases a with
    | none => simp [Builtin.append_, run_underlying hu, sizeOf, typeInfo, hi, Builtin.lenOf, Builtin.firstCells, storeCells]
    | some ad => simp [Builtin.append_, run_underlying hu, sizeOf, typeInfo, hi, Builtin.lenOf, Builtin.firstCells, storeCells, l0]
/-- All of a list of ints behind an empty one. -/
theorem app_i16 {W : World} {a : Option Addr} {n c S : Nat} {L : List Int} {v : Value} (hn : L.length = n) (hl : n ≤ 1000) (h : ARow W a L) (ho : W.ownsRow S 3 1 v 0 []) (hS : S ≤ W.heap.size) :
    ∃ p q w1, (∀ ty, (Builtin.append_ #[22, 22] ty #[v, .slice a n c]).run Try.prog W = .ok (.slice p n q) w1) ∧ w1.ownsRow S 3 1 (.slice p n q) n (ints L) ∧ W.grownBy w1 v.ownBlock ∧ ∀ g, (Value.slice p n q).ownBlock = some g → v.ownBlock = some g ∨ W.heap.size ≤ g := by
  obtain ⟨i0, hi, hz0, hz1, hz2⟩ := infoI
  obtain ⟨av, cv, rfl⟩ := own_f16 ho
  by_cases h0 : n = 0
  · subst h0
    have e : L = [] := List.length_eq_zero_iff.1 hn
    subst e
    refine ⟨av, cv, W, fun ty => ?_, ho, World.grownBy.refl _ _, fun g hg => Or.inl hg⟩
    exact app_none16 Try.underlying22 hi ho
  · rcases h with h | ⟨b, off, rfl, hb, hc⟩
    · rw [h] at hn; exact absurd hn.symm h0
    obtain ⟨g, cap, w1, h1, h2, h3, h4, _⟩ := run_append_lies (P := Try.prog) (w := W) 22 0 S 3 i0 _ 1 8 Try.underlying22 hi hz0 hz1 hz2 rfl (by decide) _ 0 [] ho ⟨b, off, none⟩ n c (ints L) (by rw [ints_len, hn, Nat.mul_one]) (fun j u hj => by
      rw [add_plain']
      have hjl : j < L.length := by have := (List.getElem?_eq_some_iff.1 hj).1; rwa [ints_len] at this
      rw [ints_get L j hjl] at hj
      cases hj
      exact hc j hjl) (fun u hu => by
        obtain ⟨z, _, rfl⟩ := List.mem_map.1 hu
        rfl) (by omega) (by unfold maxLen; omega) (by omega) hS _ rfl
    rw [Nat.zero_add, List.nil_append] at h2
    rw [Nat.zero_add] at h1
    refine ⟨some ⟨g, 0, none⟩, cap, w1, fun _ => h1, h2, h3, fun g' hg' => ?_⟩
    cases hg'
    rcases h4 with h4 | h4
    · exact Or.inl h4
    · exact Or.inr (Nat.le_of_eq h4.symm)
theorem app_m16 {W : World} {a : Option Addr} {n c S : Nat} {L : List (Int × Int)} {v : Value} (hn : L.length = n) (hl : n ≤ 1000) (h : FRow W a L) (ho : W.ownsRow S 41 2 v 0 []) (hS : S ≤ W.heap.size) :
    ∃ p q w1, (∀ ty, (Builtin.append_ #[23, 23] ty #[v, .slice a n c]).run Try.prog W = .ok (.slice p n q) w1) ∧ w1.ownsRow S 41 2 (.slice p n q) n (mce L) ∧ W.grownBy w1 v.ownBlock ∧ ∀ g, (Value.slice p n q).ownBlock = some g → v.ownBlock = some g ∨ W.heap.size ≤ g := by
  have hx : (Try.prog.info? 41).map (fun i => (i.zero, i.size, i.bytes)) = some (some (.agg #[.int .i64 0, .int .i64 0]), 2, 16) := by kernel_rfl
  obtain ⟨i0, hi, hzz⟩ := Option.map_eq_some_iff.1 hx
  simp only [Prod.mk.injEq] at hzz
  obtain ⟨hz0, hz1, hz2⟩ := hzz
  obtain ⟨av, cv, rfl⟩ := own_f16 ho
  by_cases h0 : n = 0
  · subst h0
    have e : L = [] := List.length_eq_zero_iff.1 hn
    subst e
    refine ⟨av, cv, W, fun ty => ?_, ho, World.grownBy.refl _ _, fun g hg => Or.inl hg⟩
    exact app_none16 Try.underlying23 hi ho
  · rcases h with h | ⟨b, off, rfl, hb, hc⟩
    · rw [h] at hn; exact absurd hn.symm h0
    obtain ⟨g, cap, w1, h1, h2, h3, h4, _⟩ := run_append_lies (P := Try.prog) (w := W) 23 0 S 41 i0 _ 2 16 Try.underlying23 hi hz0 hz1 hz2 rfl (by decide) _ 0 [] ho ⟨b, off, none⟩ n c (mce L) (by rw [mce_len, hn]) (fun j u hj => mce_at hc j u hj) (mce_all L) (by omega) (by unfold maxLen; omega) (by omega) hS _ rfl
    rw [Nat.zero_add, List.nil_append] at h2
    rw [Nat.zero_add] at h1
    refine ⟨some ⟨g, 0, none⟩, cap, w1, fun _ => h1, h2, h3, fun g' hg' => ?_⟩
    cases hg'
    rcases h4 with h4 | h4
    · exact Or.inl h4
    · exact Or.inr (Nat.le_of_eq h4.symm)
theorem dis_n16 {w : World} {base e s n n' c' : Nat} {v : Value} {xs : List Value} (h : w.ownsRow base e s v n xs) : Dis v.ownBlock (Value.slice (some ⟨w.heap.size, 0, none⟩) n' c').ownBlock := fun g e1 e2 => by
  have := (h.lt g e1).2; simp [Value.ownBlock] at e2; omega
/-- A copy on its way: four lists of one's own, each in a block of its own. -/
structure OW4 (w0 w : World) (v1 : Value) (m1 : Nat) (l1 : List Value) (v2 : Value) (m2 : Nat) (l2 : List Value) (v3 : Value) (m3 : Nat) (l3 : List Value) (v4 : Value) (m4 : Nat) (l4 : List Value) : Prop where
  b : Below w0.heap.size w0 w
  o1 : w.ownsRow w0.heap.size 3 1 v1 m1 l1
  o2 : w.ownsRow w0.heap.size 3 1 v2 m2 l2
  o3 : w.ownsRow w0.heap.size 41 2 v3 m3 l3
  o4 : w.ownsRow w0.heap.size 41 2 v4 m4 l4
  d12 : Dis v1.ownBlock v2.ownBlock
  d13 : Dis v1.ownBlock v3.ownBlock
  d14 : Dis v1.ownBlock v4.ownBlock
  d23 : Dis v2.ownBlock v3.ownBlock
  d24 : Dis v2.ownBlock v4.ownBlock
  d34 : Dis v3.ownBlock v4.ownBlock
theorem OW4.alloc1 {w0 w : World} {v1 : Value}  {v2 : Value} {m2 : Nat} {l2 : List Value} {v3 : Value} {m3 : Nat} {l3 : List Value} {v4 : Value} {m4 : Nat} {l4 : List Value} (h : OW4 w0 w v1 0 [] v2 m2 l2 v3 m3 l3 v4 m4 l4) : OW4 w0 (w.alloc (.cells #[] 3)) (.slice (some ⟨w.heap.size, 0, none⟩) 0 0) 0 [] v2 m2 l2 v3 m3 l3 v4 m4 l4 :=
  have hb := below_new w (.cells #[] 3)
  { b := h.b.trans (hb.mono h.b.size), o1 := owns_low (none_row10 w) h.b.size, o2 := own_b16 h.o2 hb, o3 := own_b16 h.o3 hb, o4 := own_b16 h.o4 hb, d12 := (dis_n16 h.o2).symm, d13 := (dis_n16 h.o3).symm, d14 := (dis_n16 h.o4).symm, d23 := h.d23, d24 := h.d24, d34 := h.d34 }
theorem OW4.app1 {w0 w : World} {v1 : Value}  {v2 : Value} {m2 : Nat} {l2 : List Value} {v3 : Value} {m3 : Nat} {l3 : List Value} {v4 : Value} {m4 : Nat} {l4 : List Value} {a : Option Addr} {n c : Nat} {L : List Int} (h : OW4 w0 w v1 0 [] v2 m2 l2 v3 m3 l3 v4 m4 l4) (hn : L.length = n) (hl : n ≤ 1000) (ha : ARow w a L) :
    ∃ p q w1, (∀ ty, (Builtin.append_ #[22, 22] ty #[v1, .slice a n c]).run Try.prog w = .ok (.slice p n q) w1) ∧ OW4 w0 w1 (.slice p n q) n (ints L) v2 m2 l2 v3 m3 l3 v4 m4 l4 := by
  obtain ⟨p, q, w1, hr, ow, hg, hat⟩ := app_i16 hn hl ha h.o1 h.b.size (c := c)
  have kp : ∀ {e s t : Nat} {v : Value} {xs : List Value}, w.ownsRow w0.heap.size e s v t xs → Dis v1.ownBlock v.ownBlock → w1.ownsRow w0.heap.size e s v t xs := fun hv hd => own_keep2 hv fun g e hl => hg.block g hl fun e' => hd g e'.symm e
  have dn : ∀ {e s t : Nat} {v : Value} {xs : List Value}, w.ownsRow w0.heap.size e s v t xs → Dis v1.ownBlock v.ownBlock → Dis (Value.slice p n q).ownBlock v.ownBlock := fun hv hd g e e' => by
    rcases hat g e with h1 | h1
    · exact hd g h1 e'
    · have := (hv.lt g e').2; omega
  exact ⟨p, q, w1, hr, { b := h.b.trans (grown_under10 hg (fun g e => (h.o1.lt g e).1) h.b.size), o1 := ow, o2 := kp h.o2 h.d12, o3 := kp h.o3 h.d13, o4 := kp h.o4 h.d14, d12 := dn h.o2 h.d12, d13 := dn h.o3 h.d13, d14 := dn h.o4 h.d14, d23 := h.d23, d24 := h.d24, d34 := h.d34 }⟩
theorem OW4.alloc2 {w0 w : World} {v1 : Value} {m1 : Nat} {l1 : List Value} {v2 : Value}  {v3 : Value} {m3 : Nat} {l3 : List Value} {v4 : Value} {m4 : Nat} {l4 : List Value} (h : OW4 w0 w v1 m1 l1 v2 0 [] v3 m3 l3 v4 m4 l4) : OW4 w0 (w.alloc (.cells #[] 3)) v1 m1 l1 (.slice (some ⟨w.heap.size, 0, none⟩) 0 0) 0 [] v3 m3 l3 v4 m4 l4 :=
  have hb := below_new w (.cells #[] 3)
  { b := h.b.trans (hb.mono h.b.size), o1 := own_b16 h.o1 hb, o2 := owns_low (none_row10 w) h.b.size, o3 := own_b16 h.o3 hb, o4 := own_b16 h.o4 hb, d12 := dis_n16 h.o1, d13 := h.d13, d14 := h.d14, d23 := (dis_n16 h.o3).symm, d24 := (dis_n16 h.o4).symm, d34 := h.d34 }
theorem OW4.app2 {w0 w : World} {v1 : Value} {m1 : Nat} {l1 : List Value} {v2 : Value}  {v3 : Value} {m3 : Nat} {l3 : List Value} {v4 : Value} {m4 : Nat} {l4 : List Value} {a : Option Addr} {n c : Nat} {L : List Int} (h : OW4 w0 w v1 m1 l1 v2 0 [] v3 m3 l3 v4 m4 l4) (hn : L.length = n) (hl : n ≤ 1000) (ha : ARow w a L) :
    ∃ p q w1, (∀ ty, (Builtin.append_ #[22, 22] ty #[v2, .slice a n c]).run Try.prog w = .ok (.slice p n q) w1) ∧ OW4 w0 w1 v1 m1 l1 (.slice p n q) n (ints L) v3 m3 l3 v4 m4 l4 := by
  obtain ⟨p, q, w1, hr, ow, hg, hat⟩ := app_i16 hn hl ha h.o2 h.b.size (c := c)
  have kp : ∀ {e s t : Nat} {v : Value} {xs : List Value}, w.ownsRow w0.heap.size e s v t xs → Dis v2.ownBlock v.ownBlock → w1.ownsRow w0.heap.size e s v t xs := fun hv hd => own_keep2 hv fun g e hl => hg.block g hl fun e' => hd g e'.symm e
  have dn : ∀ {e s t : Nat} {v : Value} {xs : List Value}, w.ownsRow w0.heap.size e s v t xs → Dis v2.ownBlock v.ownBlock → Dis (Value.slice p n q).ownBlock v.ownBlock := fun hv hd g e e' => by
    rcases hat g e with h1 | h1
    · exact hd g h1 e'
    · have := (hv.lt g e').2; omega
  exact ⟨p, q, w1, hr, { b := h.b.trans (grown_under10 hg (fun g e => (h.o2.lt g e).1) h.b.size), o1 := kp h.o1 h.d12.symm, o2 := ow, o3 := kp h.o3 h.d23, o4 := kp h.o4 h.d24, d12 := (dn h.o1 h.d12.symm).symm, d13 := h.d13, d14 := h.d14, d23 := dn h.o3 h.d23, d24 := dn h.o4 h.d24, d34 := h.d34 }⟩
theorem OW4.alloc3 {w0 w : World} {v1 : Value} {m1 : Nat} {l1 : List Value} {v2 : Value} {m2 : Nat} {l2 : List Value} {v3 : Value}  {v4 : Value} {m4 : Nat} {l4 : List Value} (h : OW4 w0 w v1 m1 l1 v2 m2 l2 v3 0 [] v4 m4 l4) : OW4 w0 (w.alloc (.cells #[] 41)) v1 m1 l1 v2 m2 l2 (.slice (some ⟨w.heap.size, 0, none⟩) 0 0) 0 [] v4 m4 l4 :=
  have hb := below_new w (.cells #[] 41)
  { b := h.b.trans (hb.mono h.b.size), o1 := own_b16 h.o1 hb, o2 := own_b16 h.o2 hb, o3 := owns_low (nil_row16 w) h.b.size, o4 := own_b16 h.o4 hb, d12 := h.d12, d13 := dis_n16 h.o1, d14 := h.d14, d23 := dis_n16 h.o2, d24 := h.d24, d34 := (dis_n16 h.o4).symm }
theorem OW4.app3 {w0 w : World} {v1 : Value} {m1 : Nat} {l1 : List Value} {v2 : Value} {m2 : Nat} {l2 : List Value} {v3 : Value}  {v4 : Value} {m4 : Nat} {l4 : List Value} {a : Option Addr} {n c : Nat} {L : List (Int × Int)} (h : OW4 w0 w v1 m1 l1 v2 m2 l2 v3 0 [] v4 m4 l4) (hn : L.length = n) (hl : n ≤ 1000) (ha : FRow w a L) :
    ∃ p q w1, (∀ ty, (Builtin.append_ #[23, 23] ty #[v3, .slice a n c]).run Try.prog w = .ok (.slice p n q) w1) ∧ OW4 w0 w1 v1 m1 l1 v2 m2 l2 (.slice p n q) n (mce L) v4 m4 l4 := by
  obtain ⟨p, q, w1, hr, ow, hg, hat⟩ := app_m16 hn hl ha h.o3 h.b.size (c := c)
  have kp : ∀ {e s t : Nat} {v : Value} {xs : List Value}, w.ownsRow w0.heap.size e s v t xs → Dis v3.ownBlock v.ownBlock → w1.ownsRow w0.heap.size e s v t xs := fun hv hd => own_keep2 hv fun g e hl => hg.block g hl fun e' => hd g e'.symm e
  have dn : ∀ {e s t : Nat} {v : Value} {xs : List Value}, w.ownsRow w0.heap.size e s v t xs → Dis v3.ownBlock v.ownBlock → Dis (Value.slice p n q).ownBlock v.ownBlock := fun hv hd g e e' => by
    rcases hat g e with h1 | h1
    · exact hd g h1 e'
    · have := (hv.lt g e').2; omega
  exact ⟨p, q, w1, hr, { b := h.b.trans (grown_under10 hg (fun g e => (h.o3.lt g e).1) h.b.size), o1 := kp h.o1 h.d13.symm, o2 := kp h.o2 h.d23.symm, o3 := ow, o4 := kp h.o4 h.d34, d12 := h.d12, d13 := (dn h.o1 h.d13.symm).symm, d14 := h.d14, d23 := (dn h.o2 h.d23.symm).symm, d24 := h.d24, d34 := dn h.o4 h.d34 }⟩
theorem OW4.alloc4 {w0 w : World} {v1 : Value} {m1 : Nat} {l1 : List Value} {v2 : Value} {m2 : Nat} {l2 : List Value} {v3 : Value} {m3 : Nat} {l3 : List Value} {v4 : Value}  (h : OW4 w0 w v1 m1 l1 v2 m2 l2 v3 m3 l3 v4 0 []) : OW4 w0 (w.alloc (.cells #[] 41)) v1 m1 l1 v2 m2 l2 v3 m3 l3 (.slice (some ⟨w.heap.size, 0, none⟩) 0 0) 0 [] :=
  have hb := below_new w (.cells #[] 41)
  { b := h.b.trans (hb.mono h.b.size), o1 := own_b16 h.o1 hb, o2 := own_b16 h.o2 hb, o3 := own_b16 h.o3 hb, o4 := owns_low (nil_row16 w) h.b.size, d12 := h.d12, d13 := h.d13, d14 := dis_n16 h.o1, d23 := h.d23, d24 := dis_n16 h.o2, d34 := dis_n16 h.o3 }
theorem OW4.app4 {w0 w : World} {v1 : Value} {m1 : Nat} {l1 : List Value} {v2 : Value} {m2 : Nat} {l2 : List Value} {v3 : Value} {m3 : Nat} {l3 : List Value} {v4 : Value}  {a : Option Addr} {n c : Nat} {L : List (Int × Int)} (h : OW4 w0 w v1 m1 l1 v2 m2 l2 v3 m3 l3 v4 0 []) (hn : L.length = n) (hl : n ≤ 1000) (ha : FRow w a L) :
    ∃ p q w1, (∀ ty, (Builtin.append_ #[23, 23] ty #[v4, .slice a n c]).run Try.prog w = .ok (.slice p n q) w1) ∧ OW4 w0 w1 v1 m1 l1 v2 m2 l2 v3 m3 l3 (.slice p n q) n (mce L) := by
  obtain ⟨p, q, w1, hr, ow, hg, hat⟩ := app_m16 hn hl ha h.o4 h.b.size (c := c)
  have kp : ∀ {e s t : Nat} {v : Value} {xs : List Value}, w.ownsRow w0.heap.size e s v t xs → Dis v4.ownBlock v.ownBlock → w1.ownsRow w0.heap.size e s v t xs := fun hv hd => own_keep2 hv fun g e hl => hg.block g hl fun e' => hd g e'.symm e
  have dn : ∀ {e s t : Nat} {v : Value} {xs : List Value}, w.ownsRow w0.heap.size e s v t xs → Dis v4.ownBlock v.ownBlock → Dis (Value.slice p n q).ownBlock v.ownBlock := fun hv hd g e e' => by
    rcases hat g e with h1 | h1
    · exact hd g h1 e'
    · have := (hv.lt g e').2; omega
  exact ⟨p, q, w1, hr, { b := h.b.trans (grown_under10 hg (fun g e => (h.o4.lt g e).1) h.b.size), o1 := kp h.o1 h.d14.symm, o2 := kp h.o2 h.d24.symm, o3 := kp h.o3 h.d34.symm, o4 := ow, d12 := h.d12, d13 := h.d13, d14 := (dn h.o1 h.d14.symm).symm, d23 := h.d23, d24 := (dn h.o2 h.d24.symm).symm, d34 := (dn h.o3 h.d34.symm).symm }⟩
/-- The operations of the region. -/
def ops16 : Array Oper :=
      #[{ dst := some 3, op := Op.buildSlice 22 0 #[], type := 22, pos := "l16_job.go:36", after := #[],
          guard := none },
        { dst := some 4, op := Op.fieldAddr 25 (Operand.tmp 1) 0, type := 0, pos := "l16_job.go:36", after := #[],
          guard := none },
        { dst := some 5, op := Op.load 22 (Operand.tmp 4), type := 22, pos := "l16_job.go:36",
          after := #[{ on := 1, ground := Ground.data }], guard := none },
        { dst := some 6,
          op :=
            Op.call
              { callee := Callee.builtin Builtin.append, args := #[Operand.tmp 3, Operand.tmp 5],
                argTypes := #[22, 22] },
          type := 22, pos := "l16_job.go:36",
          after := #[{ on := 0, ground := Ground.data }, { on := 2, ground := Ground.data }], guard := none },
        { dst := some 7, op := Op.buildSlice 22 0 #[], type := 22, pos := "l16_job.go:36", after := #[],
          guard := none },
        { dst := some 8, op := Op.fieldAddr 25 (Operand.tmp 1) 1, type := 0, pos := "l16_job.go:36", after := #[],
          guard := none },
        { dst := some 9, op := Op.load 22 (Operand.tmp 8), type := 22, pos := "l16_job.go:36",
          after := #[{ on := 5, ground := Ground.data }], guard := none },
        { dst := some 10,
          op :=
            Op.call
              { callee := Callee.builtin Builtin.append, args := #[Operand.tmp 7, Operand.tmp 9],
                argTypes := #[22, 22] },
          type := 22, pos := "l16_job.go:36",
          after := #[{ on := 4, ground := Ground.data }, { on := 6, ground := Ground.data }, { on := 3, ground := Ground.chain }], guard := none },
        { dst := some 11, op := Op.buildSlice 23 0 #[], type := 23, pos := "l16_job.go:36", after := #[],
          guard := none },
        { dst := some 12, op := Op.fieldAddr 25 (Operand.tmp 1) 2, type := 0, pos := "l16_job.go:36", after := #[],
          guard := none },
        { dst := some 13, op := Op.load 23 (Operand.tmp 12), type := 23, pos := "l16_job.go:36",
          after := #[{ on := 9, ground := Ground.data }], guard := none },
        { dst := some 14,
          op :=
            Op.call
              { callee := Callee.builtin Builtin.append, args := #[Operand.tmp 11, Operand.tmp 13],
                argTypes := #[23, 23] },
          type := 23, pos := "l16_job.go:36",
          after := #[{ on := 8, ground := Ground.data }, { on := 10, ground := Ground.data }, { on := 7, ground := Ground.chain }], guard := none },
        { dst := some 15, op := Op.buildSlice 23 0 #[], type := 23, pos := "l16_job.go:36", after := #[],
          guard := none },
        { dst := some 16, op := Op.fieldAddr 25 (Operand.tmp 1) 3, type := 0, pos := "l16_job.go:36", after := #[],
          guard := none },
        { dst := some 17, op := Op.load 23 (Operand.tmp 16), type := 23, pos := "l16_job.go:36",
          after := #[{ on := 13, ground := Ground.data }], guard := none },
        { dst := some 18,
          op :=
            Op.call
              { callee := Callee.builtin Builtin.append, args := #[Operand.tmp 15, Operand.tmp 17],
                argTypes := #[23, 23] },
          type := 23, pos := "l16_job.go:36",
          after := #[{ on := 12, ground := Ground.data }, { on := 14, ground := Ground.data }, { on := 11, ground := Ground.chain }], guard := none },
        { dst := some 19, op := Op.fieldAddr 25 (Operand.tmp 1) 4, type := 0, pos := "l16_job.go:36", after := #[],
          guard := none },
        { dst := some 20, op := Op.load 3 (Operand.tmp 19), type := 3, pos := "l16_job.go:36",
          after := #[{ on := 16, ground := Ground.data }], guard := none },
        { dst := some 21,
          op :=
            Op.build 25
              #[(0, Operand.tmp 6), (1, Operand.tmp 10), (2, Operand.tmp 14), (3, Operand.tmp 18), (4, Operand.tmp 20)],
          type := 25, pos := "l16_job.go:36",
          after :=
            #[{ on := 3, ground := Ground.data }, { on := 7, ground := Ground.data },
              { on := 11, ground := Ground.data }, { on := 15, ground := Ground.data },
              { on := 17, ground := Ground.data }],
          guard := none },
        { dst := none, op := Op.store 25 (Operand.tmp 2) (Operand.tmp 21), type := 0, pos := "l16_job.go:36",
          after :=
            #[{ on := 18, ground := Ground.data }, { on := 15, ground := Ground.chain },
              { on := 0, ground := Ground.phase }, { on := 1, ground := Ground.phase }, { on := 2, ground := Ground.phase }, { on := 3, ground := Ground.phase }, { on := 4, ground := Ground.phase }, { on := 5, ground := Ground.phase }, { on := 6, ground := Ground.phase }, { on := 7, ground := Ground.phase }, { on := 8, ground := Ground.phase }, { on := 9, ground := Ground.phase }, { on := 10, ground := Ground.phase }, { on := 11, ground := Ground.phase }, { on := 12, ground := Ground.phase }, { on := 13, ground := Ground.phase }, { on := 14, ground := Ground.phase }, { on := 15, ground := Ground.phase }, { on := 16, ground := Ground.phase }, { on := 17, ground := Ground.phase }, { on := 18, ground := Ground.phase }],
          guard := none }]
set_option maxRecDepth 20000 in
set_option maxHeartbeats 4000000 in
theorem owd_0_3_4_7_8_11_12_15 {Q : Exit → Act → World → Prop} {w0 W : World} {a1 a2 a3 a4 : Option Addr} {n1 n2 n3 n4 c1 c2 c3 c4 A R : Nat} {f : Int} {x : Jb.J} {x0 : Value} {B1 : Nat} {p1 : Option Addr} {q1 : Nat} {B2 : Nat} {p2 : Option Addr} {q2 : Nat} {B3 : Nat} {p3 : Option Addr} {q3 : Nat} {B4 : Nat} {p4 : Option Addr} {q4 : Nat} (_HN : Hid (x.xs.length = n1 ∧ x.ws.length = n2 ∧ x.L.length = n3 ∧ x.M.length = n4)) (_HL : Hid (n1 ≤ 1000 ∧ n2 ≤ 1000 ∧ n3 ≤ 1000 ∧ n4 ≤ 1000)) (_HM : Hid (∀ X, Below w0.heap.size w0 X → ARow X a1 x.xs ∧ ARow X a2 x.ws ∧ FRow X a3 x.L ∧ FRow X a4 x.M)) (_HSA : Hid (∀ X, Below w0.heap.size w0 X → X.cell? ⟨A, 0, none⟩ = some (.slice a1 n1 c1) ∧ X.cell? ⟨A, 1, none⟩ = some (.slice a2 n2 c2) ∧ X.cell? ⟨A, 2, none⟩ = some (.slice a3 n3 c3) ∧ X.cell? ⟨A, 3, none⟩ = some (.slice a4 n4 c4) ∧ X.cell? ⟨A, 4, none⟩ = some (.int .i64 f))) (HSP : Hid (∀ X, Below w0.heap.size w0 X → ∀ v1 v2 v3 v4 v5 : Value, (fun X => X.cell? ⟨A, 0, none⟩ = some (.slice a1 n1 c1) ∧ X.cell? ⟨A, 1, none⟩ = some (.slice a2 n2 c2) ∧ X.cell? ⟨A, 2, none⟩ = some (.slice a3 n3 c3) ∧ X.cell? ⟨A, 3, none⟩ = some (.slice a4 n4 c4) ∧ X.cell? ⟨A, 4, none⟩ = some (.int .i64 f)) (put5 X R v1 v2 v3 v4 v5))) (HRJ : Hid (∀ X, Below w0.heap.size w0 X → JW X R 25 (.slice none 0 0) (.slice none 0 0) (.slice none 0 0) (.slice none 0 0) (.int .i64 0))) (hQ : Hid (∀ B1 B2 B3 B4 p1 q1 p2 q2 p3 q3 p4 q4 X, OW4 w0 X (.slice p1 n1 q1) n1 (ints x.xs) (.slice p2 n2 q2) n2 (ints x.ws) (.slice p3 n3 q3) n3 (mce x.L) (.slice p4 n4 q4) n4 (mce x.M) → Q .normal ⟨#[x0, .pointer (some ⟨A, 0, none⟩), .pointer (some ⟨R, 0, none⟩), .slice (some ⟨B1, 0, none⟩) 0 0, .pointer (some ⟨A, 0, none⟩), .slice a1 n1 c1, .slice p1 n1 q1, .slice (some ⟨B2, 0, none⟩) 0 0, .pointer (some ⟨A, 1, none⟩), .slice a2 n2 c2, .slice p2 n2 q2, .slice (some ⟨B3, 0, none⟩) 0 0, .pointer (some ⟨A, 2, none⟩), .slice a3 n3 c3, .slice p3 n3 q3, .slice (some ⟨B4, 0, none⟩) 0 0, .pointer (some ⟨A, 3, none⟩), .slice a4 n4 c4, .slice p4 n4 q4, .pointer (some ⟨A, 4, none⟩), .int .i64 f, .agg #[.slice p1 n1 q1, .slice p2 n2 q2, .slice p3 n3 q3, .slice p4 n4 q4, .int .i64 f]], []⟩ (put5 X R (.slice p1 n1 q1) (.slice p2 n2 q2) (.slice p3 n3 q3) (.slice p4 n4 q4) (.int .i64 f)))) (HO : Hid (OW4 w0 W (.slice p1 n1 q1) n1 (ints x.xs) (.slice p2 n2 q2) n2 (ints x.ws) (.slice p3 n3 q3) n3 (mce x.L) (.slice p4 n4 q4) n4 (mce x.M))) :
    wpAnyH Try.prog .any ops16 (NoPanic Q) (fun X => X.cell? ⟨A, 0, none⟩ = some (.slice a1 n1 c1) ∧ X.cell? ⟨A, 1, none⟩ = some (.slice a2 n2 c2) ∧ X.cell? ⟨A, 2, none⟩ = some (.slice a3 n3 c3) ∧ X.cell? ⟨A, 3, none⟩ = some (.slice a4 n4 c4) ∧ X.cell? ⟨A, 4, none⟩ = some (.int .i64 f)) 1 #[true, true, true, true, true, true, true, true, true, true, true, true, true, true, true, true, true, true, true, false] ⟨#[x0, .pointer (some ⟨A, 0, none⟩), .pointer (some ⟨R, 0, none⟩), .slice (some ⟨B1, 0, none⟩) 0 0, .pointer (some ⟨A, 0, none⟩), .slice a1 n1 c1, .slice p1 n1 q1, .slice (some ⟨B2, 0, none⟩) 0 0, .pointer (some ⟨A, 1, none⟩), .slice a2 n2 c2, .slice p2 n2 q2, .slice (some ⟨B3, 0, none⟩) 0 0, .pointer (some ⟨A, 2, none⟩), .slice a3 n3 c3, .slice p3 n3 q3, .slice (some ⟨B4, 0, none⟩) 0 0, .pointer (some ⟨A, 3, none⟩), .slice a4 n4 c4, .slice p4 n4 q4, .pointer (some ⟨A, 4, none⟩), .int .i64 f, .agg #[.slice p1 n1 q1, .slice p2 n2 q2, .slice p3 n3 q3, .slice p4 n4 q4, .int .i64 f]], []⟩ W := by
  have J := HRJ.out _ HO.out.b
  obtain ⟨y0, y1, y2, y3, y4⟩ := J.cells
  have z0 := J.fz 0
  have z1 := J.fz 1
  have z2 := J.fz 2
  have z3 := J.fz 3
  have z4 := J.fz 4
  have HST := hide (HSP.out _ HO.out.b (.slice p1 n1 q1) (.slice p2 n2 q2) (.slice p3 n3 q3) (.slice p4 n4 q4) (.int .i64 f))
  clear J
  unfold ops16
  refine wpAnyH_ready (rs := [19]) (by kernel_rfl) (by simp) ?_
  refine AllReadyH.cons (o := ⟨none, _, _, _, _, none⟩) rfl (fun K hK => ?_) AllReadyH.nil
  go_simp
  refine hK.out _ _ HST.out (fun _ => ?_)
  clear hK K z0 z1 z2 z3 z4 y0 y1 y2 y3 y4
  refine wpAnyH_done (by kernel_rfl) ?_ _
  exact NoPanic.normal (hQ.out B1 B2 B3 B4 p1 q1 p2 q2 p3 q3 p4 q4 _ HO.out)
set_option maxRecDepth 20000 in
set_option maxHeartbeats 4000000 in
theorem owd_0_3_4_7_8_11_12 {Q : Exit → Act → World → Prop} {w0 W : World} {a1 a2 a3 a4 : Option Addr} {n1 n2 n3 n4 c1 c2 c3 c4 A R : Nat} {f : Int} {x : Jb.J} {x0 : Value} {B1 : Nat} {p1 : Option Addr} {q1 : Nat} {B2 : Nat} {p2 : Option Addr} {q2 : Nat} {B3 : Nat} {p3 : Option Addr} {q3 : Nat} {B4 : Nat} (HN : Hid (x.xs.length = n1 ∧ x.ws.length = n2 ∧ x.L.length = n3 ∧ x.M.length = n4)) (HL : Hid (n1 ≤ 1000 ∧ n2 ≤ 1000 ∧ n3 ≤ 1000 ∧ n4 ≤ 1000)) (HM : Hid (∀ X, Below w0.heap.size w0 X → ARow X a1 x.xs ∧ ARow X a2 x.ws ∧ FRow X a3 x.L ∧ FRow X a4 x.M)) (HSA : Hid (∀ X, Below w0.heap.size w0 X → X.cell? ⟨A, 0, none⟩ = some (.slice a1 n1 c1) ∧ X.cell? ⟨A, 1, none⟩ = some (.slice a2 n2 c2) ∧ X.cell? ⟨A, 2, none⟩ = some (.slice a3 n3 c3) ∧ X.cell? ⟨A, 3, none⟩ = some (.slice a4 n4 c4) ∧ X.cell? ⟨A, 4, none⟩ = some (.int .i64 f))) (HSP : Hid (∀ X, Below w0.heap.size w0 X → ∀ v1 v2 v3 v4 v5 : Value, (fun X => X.cell? ⟨A, 0, none⟩ = some (.slice a1 n1 c1) ∧ X.cell? ⟨A, 1, none⟩ = some (.slice a2 n2 c2) ∧ X.cell? ⟨A, 2, none⟩ = some (.slice a3 n3 c3) ∧ X.cell? ⟨A, 3, none⟩ = some (.slice a4 n4 c4) ∧ X.cell? ⟨A, 4, none⟩ = some (.int .i64 f)) (put5 X R v1 v2 v3 v4 v5))) (HRJ : Hid (∀ X, Below w0.heap.size w0 X → JW X R 25 (.slice none 0 0) (.slice none 0 0) (.slice none 0 0) (.slice none 0 0) (.int .i64 0))) (hQ : Hid (∀ B1 B2 B3 B4 p1 q1 p2 q2 p3 q3 p4 q4 X, OW4 w0 X (.slice p1 n1 q1) n1 (ints x.xs) (.slice p2 n2 q2) n2 (ints x.ws) (.slice p3 n3 q3) n3 (mce x.L) (.slice p4 n4 q4) n4 (mce x.M) → Q .normal ⟨#[x0, .pointer (some ⟨A, 0, none⟩), .pointer (some ⟨R, 0, none⟩), .slice (some ⟨B1, 0, none⟩) 0 0, .pointer (some ⟨A, 0, none⟩), .slice a1 n1 c1, .slice p1 n1 q1, .slice (some ⟨B2, 0, none⟩) 0 0, .pointer (some ⟨A, 1, none⟩), .slice a2 n2 c2, .slice p2 n2 q2, .slice (some ⟨B3, 0, none⟩) 0 0, .pointer (some ⟨A, 2, none⟩), .slice a3 n3 c3, .slice p3 n3 q3, .slice (some ⟨B4, 0, none⟩) 0 0, .pointer (some ⟨A, 3, none⟩), .slice a4 n4 c4, .slice p4 n4 q4, .pointer (some ⟨A, 4, none⟩), .int .i64 f, .agg #[.slice p1 n1 q1, .slice p2 n2 q2, .slice p3 n3 q3, .slice p4 n4 q4, .int .i64 f]], []⟩ (put5 X R (.slice p1 n1 q1) (.slice p2 n2 q2) (.slice p3 n3 q3) (.slice p4 n4 q4) (.int .i64 f)))) (HO : Hid (OW4 w0 W (.slice p1 n1 q1) n1 (ints x.xs) (.slice p2 n2 q2) n2 (ints x.ws) (.slice p3 n3 q3) n3 (mce x.L) (.slice (some ⟨B4, 0, none⟩) 0 0) 0 [])) :
    wpAnyH Try.prog .any ops16 (NoPanic Q) (fun X => X.cell? ⟨A, 0, none⟩ = some (.slice a1 n1 c1) ∧ X.cell? ⟨A, 1, none⟩ = some (.slice a2 n2 c2) ∧ X.cell? ⟨A, 2, none⟩ = some (.slice a3 n3 c3) ∧ X.cell? ⟨A, 3, none⟩ = some (.slice a4 n4 c4) ∧ X.cell? ⟨A, 4, none⟩ = some (.int .i64 f)) 3 #[true, true, true, true, true, true, true, true, true, true, true, true, true, true, true, false, true, true, false, false] ⟨#[x0, .pointer (some ⟨A, 0, none⟩), .pointer (some ⟨R, 0, none⟩), .slice (some ⟨B1, 0, none⟩) 0 0, .pointer (some ⟨A, 0, none⟩), .slice a1 n1 c1, .slice p1 n1 q1, .slice (some ⟨B2, 0, none⟩) 0 0, .pointer (some ⟨A, 1, none⟩), .slice a2 n2 c2, .slice p2 n2 q2, .slice (some ⟨B3, 0, none⟩) 0 0, .pointer (some ⟨A, 2, none⟩), .slice a3 n3 c3, .slice p3 n3 q3, .slice (some ⟨B4, 0, none⟩) 0 0, .pointer (some ⟨A, 3, none⟩), .slice a4 n4 c4, undef, .pointer (some ⟨A, 4, none⟩), .int .i64 f, undef], []⟩ W := by
  unfold ops16
  refine wpAnyH_ready (rs := [15]) (by kernel_rfl) (by simp) ?_
  refine AllReadyH.cons (o := ⟨some 18, _, _, _, _, none⟩) rfl (fun K hK => ?_) (AllReadyH.nil)
  · obtain ⟨p4, q4, w1, hr, ho⟩ := HO.out.app4 (c := c4) HN.out.2.2.2 HL.out.2.2.2 (HM.out _ HO.out.b).2.2.2
    have HOn := hide ho
    refine step16 (by rfl) (.tmp 15) (.tmp 17) 23 23 (by rfl) (.slice (some ⟨B4, 0, none⟩) 0 0) (.slice a4 n4 c4) (by rfl) (by rfl) (.slice p4 n4 q4) w1 (hr _) ?_
    refine hK.out _ _ (HSA.out _ HOn.out.b) (fun _ => ?_)
    simp only [Act.put, List.setIfInBounds_toArray, List.set_cons_zero, List.set_cons_succ]
    clear hK K hr ho HO
    refine wpAnyH_take (i := 18) (oi := ⟨some 21, _, _, _, _, none⟩) (v := .agg #[.slice p1 n1 q1, .slice p2 n2 q2, .slice p3 n3 q3, .slice p4 n4 q4, .int .i64 f]) rfl (by kernel_rfl) (by kernel_rfl) (by kernel_rfl) (fun _ _ _ h => h) (Or.inl ⟨by rfl, fun w' hSw => by obtain ⟨s0, s1⟩ := hSw; go_simp⟩) (HSA.out _ HOn.out.b) ?_
    simp only [Act.put, List.setIfInBounds_toArray, List.set_cons_zero, List.set_cons_succ]
    exact owd_0_3_4_7_8_11_12_15 HN HL HM HSA HSP HRJ hQ HOn
set_option maxRecDepth 20000 in
set_option maxHeartbeats 4000000 in
theorem owd_0_3_4_7_8_11 {Q : Exit → Act → World → Prop} {w0 W : World} {a1 a2 a3 a4 : Option Addr} {n1 n2 n3 n4 c1 c2 c3 c4 A R : Nat} {f : Int} {x : Jb.J} {x0 : Value} {B1 : Nat} {p1 : Option Addr} {q1 : Nat} {B2 : Nat} {p2 : Option Addr} {q2 : Nat} {B3 : Nat} {p3 : Option Addr} {q3 : Nat} (HN : Hid (x.xs.length = n1 ∧ x.ws.length = n2 ∧ x.L.length = n3 ∧ x.M.length = n4)) (HL : Hid (n1 ≤ 1000 ∧ n2 ≤ 1000 ∧ n3 ≤ 1000 ∧ n4 ≤ 1000)) (HM : Hid (∀ X, Below w0.heap.size w0 X → ARow X a1 x.xs ∧ ARow X a2 x.ws ∧ FRow X a3 x.L ∧ FRow X a4 x.M)) (HSA : Hid (∀ X, Below w0.heap.size w0 X → X.cell? ⟨A, 0, none⟩ = some (.slice a1 n1 c1) ∧ X.cell? ⟨A, 1, none⟩ = some (.slice a2 n2 c2) ∧ X.cell? ⟨A, 2, none⟩ = some (.slice a3 n3 c3) ∧ X.cell? ⟨A, 3, none⟩ = some (.slice a4 n4 c4) ∧ X.cell? ⟨A, 4, none⟩ = some (.int .i64 f))) (HSP : Hid (∀ X, Below w0.heap.size w0 X → ∀ v1 v2 v3 v4 v5 : Value, (fun X => X.cell? ⟨A, 0, none⟩ = some (.slice a1 n1 c1) ∧ X.cell? ⟨A, 1, none⟩ = some (.slice a2 n2 c2) ∧ X.cell? ⟨A, 2, none⟩ = some (.slice a3 n3 c3) ∧ X.cell? ⟨A, 3, none⟩ = some (.slice a4 n4 c4) ∧ X.cell? ⟨A, 4, none⟩ = some (.int .i64 f)) (put5 X R v1 v2 v3 v4 v5))) (HRJ : Hid (∀ X, Below w0.heap.size w0 X → JW X R 25 (.slice none 0 0) (.slice none 0 0) (.slice none 0 0) (.slice none 0 0) (.int .i64 0))) (hQ : Hid (∀ B1 B2 B3 B4 p1 q1 p2 q2 p3 q3 p4 q4 X, OW4 w0 X (.slice p1 n1 q1) n1 (ints x.xs) (.slice p2 n2 q2) n2 (ints x.ws) (.slice p3 n3 q3) n3 (mce x.L) (.slice p4 n4 q4) n4 (mce x.M) → Q .normal ⟨#[x0, .pointer (some ⟨A, 0, none⟩), .pointer (some ⟨R, 0, none⟩), .slice (some ⟨B1, 0, none⟩) 0 0, .pointer (some ⟨A, 0, none⟩), .slice a1 n1 c1, .slice p1 n1 q1, .slice (some ⟨B2, 0, none⟩) 0 0, .pointer (some ⟨A, 1, none⟩), .slice a2 n2 c2, .slice p2 n2 q2, .slice (some ⟨B3, 0, none⟩) 0 0, .pointer (some ⟨A, 2, none⟩), .slice a3 n3 c3, .slice p3 n3 q3, .slice (some ⟨B4, 0, none⟩) 0 0, .pointer (some ⟨A, 3, none⟩), .slice a4 n4 c4, .slice p4 n4 q4, .pointer (some ⟨A, 4, none⟩), .int .i64 f, .agg #[.slice p1 n1 q1, .slice p2 n2 q2, .slice p3 n3 q3, .slice p4 n4 q4, .int .i64 f]], []⟩ (put5 X R (.slice p1 n1 q1) (.slice p2 n2 q2) (.slice p3 n3 q3) (.slice p4 n4 q4) (.int .i64 f)))) (HO : Hid (OW4 w0 W (.slice p1 n1 q1) n1 (ints x.xs) (.slice p2 n2 q2) n2 (ints x.ws) (.slice p3 n3 q3) n3 (mce x.L) (.slice none 0 0) 0 [])) :
    wpAnyH Try.prog .any ops16 (NoPanic Q) (fun X => X.cell? ⟨A, 0, none⟩ = some (.slice a1 n1 c1) ∧ X.cell? ⟨A, 1, none⟩ = some (.slice a2 n2 c2) ∧ X.cell? ⟨A, 2, none⟩ = some (.slice a3 n3 c3) ∧ X.cell? ⟨A, 3, none⟩ = some (.slice a4 n4 c4) ∧ X.cell? ⟨A, 4, none⟩ = some (.int .i64 f)) 4 #[true, true, true, true, true, true, true, true, true, true, true, true, false, true, true, false, true, true, false, false] ⟨#[x0, .pointer (some ⟨A, 0, none⟩), .pointer (some ⟨R, 0, none⟩), .slice (some ⟨B1, 0, none⟩) 0 0, .pointer (some ⟨A, 0, none⟩), .slice a1 n1 c1, .slice p1 n1 q1, .slice (some ⟨B2, 0, none⟩) 0 0, .pointer (some ⟨A, 1, none⟩), .slice a2 n2 c2, .slice p2 n2 q2, .slice (some ⟨B3, 0, none⟩) 0 0, .pointer (some ⟨A, 2, none⟩), .slice a3 n3 c3, .slice p3 n3 q3, undef, .pointer (some ⟨A, 3, none⟩), .slice a4 n4 c4, undef, .pointer (some ⟨A, 4, none⟩), .int .i64 f, undef], []⟩ W := by
  unfold ops16
  refine wpAnyH_ready (rs := [12]) (by kernel_rfl) (by simp) ?_
  refine AllReadyH.cons (o := ⟨some 15, _, _, _, _, none⟩) rfl (fun K hK => ?_) (AllReadyH.nil)
  · have HOn := hide HO.out.alloc4
    go_simp
    refine hK.out _ _ (HSA.out _ HOn.out.b) (fun _ => ?_)
    clear hK K HO
    exact owd_0_3_4_7_8_11_12 HN HL HM HSA HSP HRJ hQ HOn
set_option maxRecDepth 20000 in
set_option maxHeartbeats 4000000 in
theorem owd_0_3_4_7_8_12 {Q : Exit → Act → World → Prop} {w0 W : World} {a1 a2 a3 a4 : Option Addr} {n1 n2 n3 n4 c1 c2 c3 c4 A R : Nat} {f : Int} {x : Jb.J} {x0 : Value} {B1 : Nat} {p1 : Option Addr} {q1 : Nat} {B2 : Nat} {p2 : Option Addr} {q2 : Nat} {B3 : Nat} {B4 : Nat} (HN : Hid (x.xs.length = n1 ∧ x.ws.length = n2 ∧ x.L.length = n3 ∧ x.M.length = n4)) (HL : Hid (n1 ≤ 1000 ∧ n2 ≤ 1000 ∧ n3 ≤ 1000 ∧ n4 ≤ 1000)) (HM : Hid (∀ X, Below w0.heap.size w0 X → ARow X a1 x.xs ∧ ARow X a2 x.ws ∧ FRow X a3 x.L ∧ FRow X a4 x.M)) (HSA : Hid (∀ X, Below w0.heap.size w0 X → X.cell? ⟨A, 0, none⟩ = some (.slice a1 n1 c1) ∧ X.cell? ⟨A, 1, none⟩ = some (.slice a2 n2 c2) ∧ X.cell? ⟨A, 2, none⟩ = some (.slice a3 n3 c3) ∧ X.cell? ⟨A, 3, none⟩ = some (.slice a4 n4 c4) ∧ X.cell? ⟨A, 4, none⟩ = some (.int .i64 f))) (HSP : Hid (∀ X, Below w0.heap.size w0 X → ∀ v1 v2 v3 v4 v5 : Value, (fun X => X.cell? ⟨A, 0, none⟩ = some (.slice a1 n1 c1) ∧ X.cell? ⟨A, 1, none⟩ = some (.slice a2 n2 c2) ∧ X.cell? ⟨A, 2, none⟩ = some (.slice a3 n3 c3) ∧ X.cell? ⟨A, 3, none⟩ = some (.slice a4 n4 c4) ∧ X.cell? ⟨A, 4, none⟩ = some (.int .i64 f)) (put5 X R v1 v2 v3 v4 v5))) (HRJ : Hid (∀ X, Below w0.heap.size w0 X → JW X R 25 (.slice none 0 0) (.slice none 0 0) (.slice none 0 0) (.slice none 0 0) (.int .i64 0))) (hQ : Hid (∀ B1 B2 B3 B4 p1 q1 p2 q2 p3 q3 p4 q4 X, OW4 w0 X (.slice p1 n1 q1) n1 (ints x.xs) (.slice p2 n2 q2) n2 (ints x.ws) (.slice p3 n3 q3) n3 (mce x.L) (.slice p4 n4 q4) n4 (mce x.M) → Q .normal ⟨#[x0, .pointer (some ⟨A, 0, none⟩), .pointer (some ⟨R, 0, none⟩), .slice (some ⟨B1, 0, none⟩) 0 0, .pointer (some ⟨A, 0, none⟩), .slice a1 n1 c1, .slice p1 n1 q1, .slice (some ⟨B2, 0, none⟩) 0 0, .pointer (some ⟨A, 1, none⟩), .slice a2 n2 c2, .slice p2 n2 q2, .slice (some ⟨B3, 0, none⟩) 0 0, .pointer (some ⟨A, 2, none⟩), .slice a3 n3 c3, .slice p3 n3 q3, .slice (some ⟨B4, 0, none⟩) 0 0, .pointer (some ⟨A, 3, none⟩), .slice a4 n4 c4, .slice p4 n4 q4, .pointer (some ⟨A, 4, none⟩), .int .i64 f, .agg #[.slice p1 n1 q1, .slice p2 n2 q2, .slice p3 n3 q3, .slice p4 n4 q4, .int .i64 f]], []⟩ (put5 X R (.slice p1 n1 q1) (.slice p2 n2 q2) (.slice p3 n3 q3) (.slice p4 n4 q4) (.int .i64 f)))) (HO : Hid (OW4 w0 W (.slice p1 n1 q1) n1 (ints x.xs) (.slice p2 n2 q2) n2 (ints x.ws) (.slice (some ⟨B3, 0, none⟩) 0 0) 0 [] (.slice (some ⟨B4, 0, none⟩) 0 0) 0 [])) :
    wpAnyH Try.prog .any ops16 (NoPanic Q) (fun X => X.cell? ⟨A, 0, none⟩ = some (.slice a1 n1 c1) ∧ X.cell? ⟨A, 1, none⟩ = some (.slice a2 n2 c2) ∧ X.cell? ⟨A, 2, none⟩ = some (.slice a3 n3 c3) ∧ X.cell? ⟨A, 3, none⟩ = some (.slice a4 n4 c4) ∧ X.cell? ⟨A, 4, none⟩ = some (.int .i64 f)) 4 #[true, true, true, true, true, true, true, true, true, true, true, false, true, true, true, false, true, true, false, false] ⟨#[x0, .pointer (some ⟨A, 0, none⟩), .pointer (some ⟨R, 0, none⟩), .slice (some ⟨B1, 0, none⟩) 0 0, .pointer (some ⟨A, 0, none⟩), .slice a1 n1 c1, .slice p1 n1 q1, .slice (some ⟨B2, 0, none⟩) 0 0, .pointer (some ⟨A, 1, none⟩), .slice a2 n2 c2, .slice p2 n2 q2, .slice (some ⟨B3, 0, none⟩) 0 0, .pointer (some ⟨A, 2, none⟩), .slice a3 n3 c3, undef, .slice (some ⟨B4, 0, none⟩) 0 0, .pointer (some ⟨A, 3, none⟩), .slice a4 n4 c4, undef, .pointer (some ⟨A, 4, none⟩), .int .i64 f, undef], []⟩ W := by
  unfold ops16
  refine wpAnyH_ready (rs := [11]) (by kernel_rfl) (by simp) ?_
  refine AllReadyH.cons (o := ⟨some 14, _, _, _, _, none⟩) rfl (fun K hK => ?_) (AllReadyH.nil)
  · obtain ⟨p3, q3, w1, hr, ho⟩ := HO.out.app3 (c := c3) HN.out.2.2.1 HL.out.2.2.1 (HM.out _ HO.out.b).2.2.1
    have HOn := hide ho
    refine step16 (by rfl) (.tmp 11) (.tmp 13) 23 23 (by rfl) (.slice (some ⟨B3, 0, none⟩) 0 0) (.slice a3 n3 c3) (by rfl) (by rfl) (.slice p3 n3 q3) w1 (hr _) ?_
    refine hK.out _ _ (HSA.out _ HOn.out.b) (fun _ => ?_)
    simp only [Act.put, List.setIfInBounds_toArray, List.set_cons_zero, List.set_cons_succ]
    clear hK K hr ho HO
    exact owd_0_3_4_7_8_11_12 HN HL HM HSA HSP HRJ hQ HOn
set_option maxRecDepth 20000 in
set_option maxHeartbeats 4000000 in
theorem owd_0_3_4_7_8 {Q : Exit → Act → World → Prop} {w0 W : World} {a1 a2 a3 a4 : Option Addr} {n1 n2 n3 n4 c1 c2 c3 c4 A R : Nat} {f : Int} {x : Jb.J} {x0 : Value} {B1 : Nat} {p1 : Option Addr} {q1 : Nat} {B2 : Nat} {p2 : Option Addr} {q2 : Nat} {B3 : Nat} (HN : Hid (x.xs.length = n1 ∧ x.ws.length = n2 ∧ x.L.length = n3 ∧ x.M.length = n4)) (HL : Hid (n1 ≤ 1000 ∧ n2 ≤ 1000 ∧ n3 ≤ 1000 ∧ n4 ≤ 1000)) (HM : Hid (∀ X, Below w0.heap.size w0 X → ARow X a1 x.xs ∧ ARow X a2 x.ws ∧ FRow X a3 x.L ∧ FRow X a4 x.M)) (HSA : Hid (∀ X, Below w0.heap.size w0 X → X.cell? ⟨A, 0, none⟩ = some (.slice a1 n1 c1) ∧ X.cell? ⟨A, 1, none⟩ = some (.slice a2 n2 c2) ∧ X.cell? ⟨A, 2, none⟩ = some (.slice a3 n3 c3) ∧ X.cell? ⟨A, 3, none⟩ = some (.slice a4 n4 c4) ∧ X.cell? ⟨A, 4, none⟩ = some (.int .i64 f))) (HSP : Hid (∀ X, Below w0.heap.size w0 X → ∀ v1 v2 v3 v4 v5 : Value, (fun X => X.cell? ⟨A, 0, none⟩ = some (.slice a1 n1 c1) ∧ X.cell? ⟨A, 1, none⟩ = some (.slice a2 n2 c2) ∧ X.cell? ⟨A, 2, none⟩ = some (.slice a3 n3 c3) ∧ X.cell? ⟨A, 3, none⟩ = some (.slice a4 n4 c4) ∧ X.cell? ⟨A, 4, none⟩ = some (.int .i64 f)) (put5 X R v1 v2 v3 v4 v5))) (HRJ : Hid (∀ X, Below w0.heap.size w0 X → JW X R 25 (.slice none 0 0) (.slice none 0 0) (.slice none 0 0) (.slice none 0 0) (.int .i64 0))) (hQ : Hid (∀ B1 B2 B3 B4 p1 q1 p2 q2 p3 q3 p4 q4 X, OW4 w0 X (.slice p1 n1 q1) n1 (ints x.xs) (.slice p2 n2 q2) n2 (ints x.ws) (.slice p3 n3 q3) n3 (mce x.L) (.slice p4 n4 q4) n4 (mce x.M) → Q .normal ⟨#[x0, .pointer (some ⟨A, 0, none⟩), .pointer (some ⟨R, 0, none⟩), .slice (some ⟨B1, 0, none⟩) 0 0, .pointer (some ⟨A, 0, none⟩), .slice a1 n1 c1, .slice p1 n1 q1, .slice (some ⟨B2, 0, none⟩) 0 0, .pointer (some ⟨A, 1, none⟩), .slice a2 n2 c2, .slice p2 n2 q2, .slice (some ⟨B3, 0, none⟩) 0 0, .pointer (some ⟨A, 2, none⟩), .slice a3 n3 c3, .slice p3 n3 q3, .slice (some ⟨B4, 0, none⟩) 0 0, .pointer (some ⟨A, 3, none⟩), .slice a4 n4 c4, .slice p4 n4 q4, .pointer (some ⟨A, 4, none⟩), .int .i64 f, .agg #[.slice p1 n1 q1, .slice p2 n2 q2, .slice p3 n3 q3, .slice p4 n4 q4, .int .i64 f]], []⟩ (put5 X R (.slice p1 n1 q1) (.slice p2 n2 q2) (.slice p3 n3 q3) (.slice p4 n4 q4) (.int .i64 f)))) (HO : Hid (OW4 w0 W (.slice p1 n1 q1) n1 (ints x.xs) (.slice p2 n2 q2) n2 (ints x.ws) (.slice (some ⟨B3, 0, none⟩) 0 0) 0 [] (.slice none 0 0) 0 [])) :
    wpAnyH Try.prog .any ops16 (NoPanic Q) (fun X => X.cell? ⟨A, 0, none⟩ = some (.slice a1 n1 c1) ∧ X.cell? ⟨A, 1, none⟩ = some (.slice a2 n2 c2) ∧ X.cell? ⟨A, 2, none⟩ = some (.slice a3 n3 c3) ∧ X.cell? ⟨A, 3, none⟩ = some (.slice a4 n4 c4) ∧ X.cell? ⟨A, 4, none⟩ = some (.int .i64 f)) 5 #[true, true, true, true, true, true, true, true, true, true, true, false, false, true, true, false, true, true, false, false] ⟨#[x0, .pointer (some ⟨A, 0, none⟩), .pointer (some ⟨R, 0, none⟩), .slice (some ⟨B1, 0, none⟩) 0 0, .pointer (some ⟨A, 0, none⟩), .slice a1 n1 c1, .slice p1 n1 q1, .slice (some ⟨B2, 0, none⟩) 0 0, .pointer (some ⟨A, 1, none⟩), .slice a2 n2 c2, .slice p2 n2 q2, .slice (some ⟨B3, 0, none⟩) 0 0, .pointer (some ⟨A, 2, none⟩), .slice a3 n3 c3, undef, undef, .pointer (some ⟨A, 3, none⟩), .slice a4 n4 c4, undef, .pointer (some ⟨A, 4, none⟩), .int .i64 f, undef], []⟩ W := by
  unfold ops16
  refine wpAnyH_ready (rs := [11, 12]) (by kernel_rfl) (by simp) ?_
  refine AllReadyH.cons (o := ⟨some 14, _, _, _, _, none⟩) rfl (fun K hK => ?_) (AllReadyH.cons (o := ⟨some 15, _, _, _, _, none⟩) rfl (fun K hK => ?_) (AllReadyH.nil))
  · obtain ⟨p3, q3, w1, hr, ho⟩ := HO.out.app3 (c := c3) HN.out.2.2.1 HL.out.2.2.1 (HM.out _ HO.out.b).2.2.1
    have HOn := hide ho
    refine step16 (by rfl) (.tmp 11) (.tmp 13) 23 23 (by rfl) (.slice (some ⟨B3, 0, none⟩) 0 0) (.slice a3 n3 c3) (by rfl) (by rfl) (.slice p3 n3 q3) w1 (hr _) ?_
    refine hK.out _ _ (HSA.out _ HOn.out.b) (fun _ => ?_)
    simp only [Act.put, List.setIfInBounds_toArray, List.set_cons_zero, List.set_cons_succ]
    clear hK K hr ho HO
    exact owd_0_3_4_7_8_11 HN HL HM HSA HSP HRJ hQ HOn
  · have HOn := hide HO.out.alloc4
    go_simp
    refine hK.out _ _ (HSA.out _ HOn.out.b) (fun _ => ?_)
    clear hK K HO
    exact owd_0_3_4_7_8_12 HN HL HM HSA HSP HRJ hQ HOn
set_option maxRecDepth 20000 in
set_option maxHeartbeats 4000000 in
theorem owd_0_3_4_7_12 {Q : Exit → Act → World → Prop} {w0 W : World} {a1 a2 a3 a4 : Option Addr} {n1 n2 n3 n4 c1 c2 c3 c4 A R : Nat} {f : Int} {x : Jb.J} {x0 : Value} {B1 : Nat} {p1 : Option Addr} {q1 : Nat} {B2 : Nat} {p2 : Option Addr} {q2 : Nat} {B4 : Nat} (HN : Hid (x.xs.length = n1 ∧ x.ws.length = n2 ∧ x.L.length = n3 ∧ x.M.length = n4)) (HL : Hid (n1 ≤ 1000 ∧ n2 ≤ 1000 ∧ n3 ≤ 1000 ∧ n4 ≤ 1000)) (HM : Hid (∀ X, Below w0.heap.size w0 X → ARow X a1 x.xs ∧ ARow X a2 x.ws ∧ FRow X a3 x.L ∧ FRow X a4 x.M)) (HSA : Hid (∀ X, Below w0.heap.size w0 X → X.cell? ⟨A, 0, none⟩ = some (.slice a1 n1 c1) ∧ X.cell? ⟨A, 1, none⟩ = some (.slice a2 n2 c2) ∧ X.cell? ⟨A, 2, none⟩ = some (.slice a3 n3 c3) ∧ X.cell? ⟨A, 3, none⟩ = some (.slice a4 n4 c4) ∧ X.cell? ⟨A, 4, none⟩ = some (.int .i64 f))) (HSP : Hid (∀ X, Below w0.heap.size w0 X → ∀ v1 v2 v3 v4 v5 : Value, (fun X => X.cell? ⟨A, 0, none⟩ = some (.slice a1 n1 c1) ∧ X.cell? ⟨A, 1, none⟩ = some (.slice a2 n2 c2) ∧ X.cell? ⟨A, 2, none⟩ = some (.slice a3 n3 c3) ∧ X.cell? ⟨A, 3, none⟩ = some (.slice a4 n4 c4) ∧ X.cell? ⟨A, 4, none⟩ = some (.int .i64 f)) (put5 X R v1 v2 v3 v4 v5))) (HRJ : Hid (∀ X, Below w0.heap.size w0 X → JW X R 25 (.slice none 0 0) (.slice none 0 0) (.slice none 0 0) (.slice none 0 0) (.int .i64 0))) (hQ : Hid (∀ B1 B2 B3 B4 p1 q1 p2 q2 p3 q3 p4 q4 X, OW4 w0 X (.slice p1 n1 q1) n1 (ints x.xs) (.slice p2 n2 q2) n2 (ints x.ws) (.slice p3 n3 q3) n3 (mce x.L) (.slice p4 n4 q4) n4 (mce x.M) → Q .normal ⟨#[x0, .pointer (some ⟨A, 0, none⟩), .pointer (some ⟨R, 0, none⟩), .slice (some ⟨B1, 0, none⟩) 0 0, .pointer (some ⟨A, 0, none⟩), .slice a1 n1 c1, .slice p1 n1 q1, .slice (some ⟨B2, 0, none⟩) 0 0, .pointer (some ⟨A, 1, none⟩), .slice a2 n2 c2, .slice p2 n2 q2, .slice (some ⟨B3, 0, none⟩) 0 0, .pointer (some ⟨A, 2, none⟩), .slice a3 n3 c3, .slice p3 n3 q3, .slice (some ⟨B4, 0, none⟩) 0 0, .pointer (some ⟨A, 3, none⟩), .slice a4 n4 c4, .slice p4 n4 q4, .pointer (some ⟨A, 4, none⟩), .int .i64 f, .agg #[.slice p1 n1 q1, .slice p2 n2 q2, .slice p3 n3 q3, .slice p4 n4 q4, .int .i64 f]], []⟩ (put5 X R (.slice p1 n1 q1) (.slice p2 n2 q2) (.slice p3 n3 q3) (.slice p4 n4 q4) (.int .i64 f)))) (HO : Hid (OW4 w0 W (.slice p1 n1 q1) n1 (ints x.xs) (.slice p2 n2 q2) n2 (ints x.ws) (.slice none 0 0) 0 [] (.slice (some ⟨B4, 0, none⟩) 0 0) 0 [])) :
    wpAnyH Try.prog .any ops16 (NoPanic Q) (fun X => X.cell? ⟨A, 0, none⟩ = some (.slice a1 n1 c1) ∧ X.cell? ⟨A, 1, none⟩ = some (.slice a2 n2 c2) ∧ X.cell? ⟨A, 2, none⟩ = some (.slice a3 n3 c3) ∧ X.cell? ⟨A, 3, none⟩ = some (.slice a4 n4 c4) ∧ X.cell? ⟨A, 4, none⟩ = some (.int .i64 f)) 5 #[true, true, true, true, true, true, true, true, false, true, true, false, true, true, true, false, true, true, false, false] ⟨#[x0, .pointer (some ⟨A, 0, none⟩), .pointer (some ⟨R, 0, none⟩), .slice (some ⟨B1, 0, none⟩) 0 0, .pointer (some ⟨A, 0, none⟩), .slice a1 n1 c1, .slice p1 n1 q1, .slice (some ⟨B2, 0, none⟩) 0 0, .pointer (some ⟨A, 1, none⟩), .slice a2 n2 c2, .slice p2 n2 q2, undef, .pointer (some ⟨A, 2, none⟩), .slice a3 n3 c3, undef, .slice (some ⟨B4, 0, none⟩) 0 0, .pointer (some ⟨A, 3, none⟩), .slice a4 n4 c4, undef, .pointer (some ⟨A, 4, none⟩), .int .i64 f, undef], []⟩ W := by
  unfold ops16
  refine wpAnyH_ready (rs := [8]) (by kernel_rfl) (by simp) ?_
  refine AllReadyH.cons (o := ⟨some 11, _, _, _, _, none⟩) rfl (fun K hK => ?_) (AllReadyH.nil)
  · have HOn := hide HO.out.alloc3
    go_simp
    refine hK.out _ _ (HSA.out _ HOn.out.b) (fun _ => ?_)
    clear hK K HO
    exact owd_0_3_4_7_8_12 HN HL HM HSA HSP HRJ hQ HOn
set_option maxRecDepth 20000 in
set_option maxHeartbeats 4000000 in
theorem owd_0_3_4_8_12 {Q : Exit → Act → World → Prop} {w0 W : World} {a1 a2 a3 a4 : Option Addr} {n1 n2 n3 n4 c1 c2 c3 c4 A R : Nat} {f : Int} {x : Jb.J} {x0 : Value} {B1 : Nat} {p1 : Option Addr} {q1 : Nat} {B2 : Nat} {B3 : Nat} {B4 : Nat} (HN : Hid (x.xs.length = n1 ∧ x.ws.length = n2 ∧ x.L.length = n3 ∧ x.M.length = n4)) (HL : Hid (n1 ≤ 1000 ∧ n2 ≤ 1000 ∧ n3 ≤ 1000 ∧ n4 ≤ 1000)) (HM : Hid (∀ X, Below w0.heap.size w0 X → ARow X a1 x.xs ∧ ARow X a2 x.ws ∧ FRow X a3 x.L ∧ FRow X a4 x.M)) (HSA : Hid (∀ X, Below w0.heap.size w0 X → X.cell? ⟨A, 0, none⟩ = some (.slice a1 n1 c1) ∧ X.cell? ⟨A, 1, none⟩ = some (.slice a2 n2 c2) ∧ X.cell? ⟨A, 2, none⟩ = some (.slice a3 n3 c3) ∧ X.cell? ⟨A, 3, none⟩ = some (.slice a4 n4 c4) ∧ X.cell? ⟨A, 4, none⟩ = some (.int .i64 f))) (HSP : Hid (∀ X, Below w0.heap.size w0 X → ∀ v1 v2 v3 v4 v5 : Value, (fun X => X.cell? ⟨A, 0, none⟩ = some (.slice a1 n1 c1) ∧ X.cell? ⟨A, 1, none⟩ = some (.slice a2 n2 c2) ∧ X.cell? ⟨A, 2, none⟩ = some (.slice a3 n3 c3) ∧ X.cell? ⟨A, 3, none⟩ = some (.slice a4 n4 c4) ∧ X.cell? ⟨A, 4, none⟩ = some (.int .i64 f)) (put5 X R v1 v2 v3 v4 v5))) (HRJ : Hid (∀ X, Below w0.heap.size w0 X → JW X R 25 (.slice none 0 0) (.slice none 0 0) (.slice none 0 0) (.slice none 0 0) (.int .i64 0))) (hQ : Hid (∀ B1 B2 B3 B4 p1 q1 p2 q2 p3 q3 p4 q4 X, OW4 w0 X (.slice p1 n1 q1) n1 (ints x.xs) (.slice p2 n2 q2) n2 (ints x.ws) (.slice p3 n3 q3) n3 (mce x.L) (.slice p4 n4 q4) n4 (mce x.M) → Q .normal ⟨#[x0, .pointer (some ⟨A, 0, none⟩), .pointer (some ⟨R, 0, none⟩), .slice (some ⟨B1, 0, none⟩) 0 0, .pointer (some ⟨A, 0, none⟩), .slice a1 n1 c1, .slice p1 n1 q1, .slice (some ⟨B2, 0, none⟩) 0 0, .pointer (some ⟨A, 1, none⟩), .slice a2 n2 c2, .slice p2 n2 q2, .slice (some ⟨B3, 0, none⟩) 0 0, .pointer (some ⟨A, 2, none⟩), .slice a3 n3 c3, .slice p3 n3 q3, .slice (some ⟨B4, 0, none⟩) 0 0, .pointer (some ⟨A, 3, none⟩), .slice a4 n4 c4, .slice p4 n4 q4, .pointer (some ⟨A, 4, none⟩), .int .i64 f, .agg #[.slice p1 n1 q1, .slice p2 n2 q2, .slice p3 n3 q3, .slice p4 n4 q4, .int .i64 f]], []⟩ (put5 X R (.slice p1 n1 q1) (.slice p2 n2 q2) (.slice p3 n3 q3) (.slice p4 n4 q4) (.int .i64 f)))) (HO : Hid (OW4 w0 W (.slice p1 n1 q1) n1 (ints x.xs) (.slice (some ⟨B2, 0, none⟩) 0 0) 0 [] (.slice (some ⟨B3, 0, none⟩) 0 0) 0 [] (.slice (some ⟨B4, 0, none⟩) 0 0) 0 [])) :
    wpAnyH Try.prog .any ops16 (NoPanic Q) (fun X => X.cell? ⟨A, 0, none⟩ = some (.slice a1 n1 c1) ∧ X.cell? ⟨A, 1, none⟩ = some (.slice a2 n2 c2) ∧ X.cell? ⟨A, 2, none⟩ = some (.slice a3 n3 c3) ∧ X.cell? ⟨A, 3, none⟩ = some (.slice a4 n4 c4) ∧ X.cell? ⟨A, 4, none⟩ = some (.int .i64 f)) 5 #[true, true, true, true, true, true, true, false, true, true, true, false, true, true, true, false, true, true, false, false] ⟨#[x0, .pointer (some ⟨A, 0, none⟩), .pointer (some ⟨R, 0, none⟩), .slice (some ⟨B1, 0, none⟩) 0 0, .pointer (some ⟨A, 0, none⟩), .slice a1 n1 c1, .slice p1 n1 q1, .slice (some ⟨B2, 0, none⟩) 0 0, .pointer (some ⟨A, 1, none⟩), .slice a2 n2 c2, undef, .slice (some ⟨B3, 0, none⟩) 0 0, .pointer (some ⟨A, 2, none⟩), .slice a3 n3 c3, undef, .slice (some ⟨B4, 0, none⟩) 0 0, .pointer (some ⟨A, 3, none⟩), .slice a4 n4 c4, undef, .pointer (some ⟨A, 4, none⟩), .int .i64 f, undef], []⟩ W := by
  unfold ops16
  refine wpAnyH_ready (rs := [7]) (by kernel_rfl) (by simp) ?_
  refine AllReadyH.cons (o := ⟨some 10, _, _, _, _, none⟩) rfl (fun K hK => ?_) (AllReadyH.nil)
  · obtain ⟨p2, q2, w1, hr, ho⟩ := HO.out.app2 (c := c2) HN.out.2.1 HL.out.2.1 (HM.out _ HO.out.b).2.1
    have HOn := hide ho
    refine step16 (by rfl) (.tmp 7) (.tmp 9) 22 22 (by rfl) (.slice (some ⟨B2, 0, none⟩) 0 0) (.slice a2 n2 c2) (by rfl) (by rfl) (.slice p2 n2 q2) w1 (hr _) ?_
    refine hK.out _ _ (HSA.out _ HOn.out.b) (fun _ => ?_)
    simp only [Act.put, List.setIfInBounds_toArray, List.set_cons_zero, List.set_cons_succ]
    clear hK K hr ho HO
    exact owd_0_3_4_7_8_12 HN HL HM HSA HSP HRJ hQ HOn
set_option maxRecDepth 20000 in
set_option maxHeartbeats 4000000 in
theorem owd_0_3_4_7 {Q : Exit → Act → World → Prop} {w0 W : World} {a1 a2 a3 a4 : Option Addr} {n1 n2 n3 n4 c1 c2 c3 c4 A R : Nat} {f : Int} {x : Jb.J} {x0 : Value} {B1 : Nat} {p1 : Option Addr} {q1 : Nat} {B2 : Nat} {p2 : Option Addr} {q2 : Nat} (HN : Hid (x.xs.length = n1 ∧ x.ws.length = n2 ∧ x.L.length = n3 ∧ x.M.length = n4)) (HL : Hid (n1 ≤ 1000 ∧ n2 ≤ 1000 ∧ n3 ≤ 1000 ∧ n4 ≤ 1000)) (HM : Hid (∀ X, Below w0.heap.size w0 X → ARow X a1 x.xs ∧ ARow X a2 x.ws ∧ FRow X a3 x.L ∧ FRow X a4 x.M)) (HSA : Hid (∀ X, Below w0.heap.size w0 X → X.cell? ⟨A, 0, none⟩ = some (.slice a1 n1 c1) ∧ X.cell? ⟨A, 1, none⟩ = some (.slice a2 n2 c2) ∧ X.cell? ⟨A, 2, none⟩ = some (.slice a3 n3 c3) ∧ X.cell? ⟨A, 3, none⟩ = some (.slice a4 n4 c4) ∧ X.cell? ⟨A, 4, none⟩ = some (.int .i64 f))) (HSP : Hid (∀ X, Below w0.heap.size w0 X → ∀ v1 v2 v3 v4 v5 : Value, (fun X => X.cell? ⟨A, 0, none⟩ = some (.slice a1 n1 c1) ∧ X.cell? ⟨A, 1, none⟩ = some (.slice a2 n2 c2) ∧ X.cell? ⟨A, 2, none⟩ = some (.slice a3 n3 c3) ∧ X.cell? ⟨A, 3, none⟩ = some (.slice a4 n4 c4) ∧ X.cell? ⟨A, 4, none⟩ = some (.int .i64 f)) (put5 X R v1 v2 v3 v4 v5))) (HRJ : Hid (∀ X, Below w0.heap.size w0 X → JW X R 25 (.slice none 0 0) (.slice none 0 0) (.slice none 0 0) (.slice none 0 0) (.int .i64 0))) (hQ : Hid (∀ B1 B2 B3 B4 p1 q1 p2 q2 p3 q3 p4 q4 X, OW4 w0 X (.slice p1 n1 q1) n1 (ints x.xs) (.slice p2 n2 q2) n2 (ints x.ws) (.slice p3 n3 q3) n3 (mce x.L) (.slice p4 n4 q4) n4 (mce x.M) → Q .normal ⟨#[x0, .pointer (some ⟨A, 0, none⟩), .pointer (some ⟨R, 0, none⟩), .slice (some ⟨B1, 0, none⟩) 0 0, .pointer (some ⟨A, 0, none⟩), .slice a1 n1 c1, .slice p1 n1 q1, .slice (some ⟨B2, 0, none⟩) 0 0, .pointer (some ⟨A, 1, none⟩), .slice a2 n2 c2, .slice p2 n2 q2, .slice (some ⟨B3, 0, none⟩) 0 0, .pointer (some ⟨A, 2, none⟩), .slice a3 n3 c3, .slice p3 n3 q3, .slice (some ⟨B4, 0, none⟩) 0 0, .pointer (some ⟨A, 3, none⟩), .slice a4 n4 c4, .slice p4 n4 q4, .pointer (some ⟨A, 4, none⟩), .int .i64 f, .agg #[.slice p1 n1 q1, .slice p2 n2 q2, .slice p3 n3 q3, .slice p4 n4 q4, .int .i64 f]], []⟩ (put5 X R (.slice p1 n1 q1) (.slice p2 n2 q2) (.slice p3 n3 q3) (.slice p4 n4 q4) (.int .i64 f)))) (HO : Hid (OW4 w0 W (.slice p1 n1 q1) n1 (ints x.xs) (.slice p2 n2 q2) n2 (ints x.ws) (.slice none 0 0) 0 [] (.slice none 0 0) 0 [])) :
    wpAnyH Try.prog .any ops16 (NoPanic Q) (fun X => X.cell? ⟨A, 0, none⟩ = some (.slice a1 n1 c1) ∧ X.cell? ⟨A, 1, none⟩ = some (.slice a2 n2 c2) ∧ X.cell? ⟨A, 2, none⟩ = some (.slice a3 n3 c3) ∧ X.cell? ⟨A, 3, none⟩ = some (.slice a4 n4 c4) ∧ X.cell? ⟨A, 4, none⟩ = some (.int .i64 f)) 6 #[true, true, true, true, true, true, true, true, false, true, true, false, false, true, true, false, true, true, false, false] ⟨#[x0, .pointer (some ⟨A, 0, none⟩), .pointer (some ⟨R, 0, none⟩), .slice (some ⟨B1, 0, none⟩) 0 0, .pointer (some ⟨A, 0, none⟩), .slice a1 n1 c1, .slice p1 n1 q1, .slice (some ⟨B2, 0, none⟩) 0 0, .pointer (some ⟨A, 1, none⟩), .slice a2 n2 c2, .slice p2 n2 q2, undef, .pointer (some ⟨A, 2, none⟩), .slice a3 n3 c3, undef, undef, .pointer (some ⟨A, 3, none⟩), .slice a4 n4 c4, undef, .pointer (some ⟨A, 4, none⟩), .int .i64 f, undef], []⟩ W := by
  unfold ops16
  refine wpAnyH_ready (rs := [8, 12]) (by kernel_rfl) (by simp) ?_
  refine AllReadyH.cons (o := ⟨some 11, _, _, _, _, none⟩) rfl (fun K hK => ?_) (AllReadyH.cons (o := ⟨some 15, _, _, _, _, none⟩) rfl (fun K hK => ?_) (AllReadyH.nil))
  · have HOn := hide HO.out.alloc3
    go_simp
    refine hK.out _ _ (HSA.out _ HOn.out.b) (fun _ => ?_)
    clear hK K HO
    exact owd_0_3_4_7_8 HN HL HM HSA HSP HRJ hQ HOn
  · have HOn := hide HO.out.alloc4
    go_simp
    refine hK.out _ _ (HSA.out _ HOn.out.b) (fun _ => ?_)
    clear hK K HO
    exact owd_0_3_4_7_12 HN HL HM HSA HSP HRJ hQ HOn
set_option maxRecDepth 20000 in
set_option maxHeartbeats 4000000 in
theorem owd_0_3_4_8 {Q : Exit → Act → World → Prop} {w0 W : World} {a1 a2 a3 a4 : Option Addr} {n1 n2 n3 n4 c1 c2 c3 c4 A R : Nat} {f : Int} {x : Jb.J} {x0 : Value} {B1 : Nat} {p1 : Option Addr} {q1 : Nat} {B2 : Nat} {B3 : Nat} (HN : Hid (x.xs.length = n1 ∧ x.ws.length = n2 ∧ x.L.length = n3 ∧ x.M.length = n4)) (HL : Hid (n1 ≤ 1000 ∧ n2 ≤ 1000 ∧ n3 ≤ 1000 ∧ n4 ≤ 1000)) (HM : Hid (∀ X, Below w0.heap.size w0 X → ARow X a1 x.xs ∧ ARow X a2 x.ws ∧ FRow X a3 x.L ∧ FRow X a4 x.M)) (HSA : Hid (∀ X, Below w0.heap.size w0 X → X.cell? ⟨A, 0, none⟩ = some (.slice a1 n1 c1) ∧ X.cell? ⟨A, 1, none⟩ = some (.slice a2 n2 c2) ∧ X.cell? ⟨A, 2, none⟩ = some (.slice a3 n3 c3) ∧ X.cell? ⟨A, 3, none⟩ = some (.slice a4 n4 c4) ∧ X.cell? ⟨A, 4, none⟩ = some (.int .i64 f))) (HSP : Hid (∀ X, Below w0.heap.size w0 X → ∀ v1 v2 v3 v4 v5 : Value, (fun X => X.cell? ⟨A, 0, none⟩ = some (.slice a1 n1 c1) ∧ X.cell? ⟨A, 1, none⟩ = some (.slice a2 n2 c2) ∧ X.cell? ⟨A, 2, none⟩ = some (.slice a3 n3 c3) ∧ X.cell? ⟨A, 3, none⟩ = some (.slice a4 n4 c4) ∧ X.cell? ⟨A, 4, none⟩ = some (.int .i64 f)) (put5 X R v1 v2 v3 v4 v5))) (HRJ : Hid (∀ X, Below w0.heap.size w0 X → JW X R 25 (.slice none 0 0) (.slice none 0 0) (.slice none 0 0) (.slice none 0 0) (.int .i64 0))) (hQ : Hid (∀ B1 B2 B3 B4 p1 q1 p2 q2 p3 q3 p4 q4 X, OW4 w0 X (.slice p1 n1 q1) n1 (ints x.xs) (.slice p2 n2 q2) n2 (ints x.ws) (.slice p3 n3 q3) n3 (mce x.L) (.slice p4 n4 q4) n4 (mce x.M) → Q .normal ⟨#[x0, .pointer (some ⟨A, 0, none⟩), .pointer (some ⟨R, 0, none⟩), .slice (some ⟨B1, 0, none⟩) 0 0, .pointer (some ⟨A, 0, none⟩), .slice a1 n1 c1, .slice p1 n1 q1, .slice (some ⟨B2, 0, none⟩) 0 0, .pointer (some ⟨A, 1, none⟩), .slice a2 n2 c2, .slice p2 n2 q2, .slice (some ⟨B3, 0, none⟩) 0 0, .pointer (some ⟨A, 2, none⟩), .slice a3 n3 c3, .slice p3 n3 q3, .slice (some ⟨B4, 0, none⟩) 0 0, .pointer (some ⟨A, 3, none⟩), .slice a4 n4 c4, .slice p4 n4 q4, .pointer (some ⟨A, 4, none⟩), .int .i64 f, .agg #[.slice p1 n1 q1, .slice p2 n2 q2, .slice p3 n3 q3, .slice p4 n4 q4, .int .i64 f]], []⟩ (put5 X R (.slice p1 n1 q1) (.slice p2 n2 q2) (.slice p3 n3 q3) (.slice p4 n4 q4) (.int .i64 f)))) (HO : Hid (OW4 w0 W (.slice p1 n1 q1) n1 (ints x.xs) (.slice (some ⟨B2, 0, none⟩) 0 0) 0 [] (.slice (some ⟨B3, 0, none⟩) 0 0) 0 [] (.slice none 0 0) 0 [])) :
    wpAnyH Try.prog .any ops16 (NoPanic Q) (fun X => X.cell? ⟨A, 0, none⟩ = some (.slice a1 n1 c1) ∧ X.cell? ⟨A, 1, none⟩ = some (.slice a2 n2 c2) ∧ X.cell? ⟨A, 2, none⟩ = some (.slice a3 n3 c3) ∧ X.cell? ⟨A, 3, none⟩ = some (.slice a4 n4 c4) ∧ X.cell? ⟨A, 4, none⟩ = some (.int .i64 f)) 6 #[true, true, true, true, true, true, true, false, true, true, true, false, false, true, true, false, true, true, false, false] ⟨#[x0, .pointer (some ⟨A, 0, none⟩), .pointer (some ⟨R, 0, none⟩), .slice (some ⟨B1, 0, none⟩) 0 0, .pointer (some ⟨A, 0, none⟩), .slice a1 n1 c1, .slice p1 n1 q1, .slice (some ⟨B2, 0, none⟩) 0 0, .pointer (some ⟨A, 1, none⟩), .slice a2 n2 c2, undef, .slice (some ⟨B3, 0, none⟩) 0 0, .pointer (some ⟨A, 2, none⟩), .slice a3 n3 c3, undef, undef, .pointer (some ⟨A, 3, none⟩), .slice a4 n4 c4, undef, .pointer (some ⟨A, 4, none⟩), .int .i64 f, undef], []⟩ W := by
  unfold ops16
  refine wpAnyH_ready (rs := [7, 12]) (by kernel_rfl) (by simp) ?_
  refine AllReadyH.cons (o := ⟨some 10, _, _, _, _, none⟩) rfl (fun K hK => ?_) (AllReadyH.cons (o := ⟨some 15, _, _, _, _, none⟩) rfl (fun K hK => ?_) (AllReadyH.nil))
  · obtain ⟨p2, q2, w1, hr, ho⟩ := HO.out.app2 (c := c2) HN.out.2.1 HL.out.2.1 (HM.out _ HO.out.b).2.1
    have HOn := hide ho
    refine step16 (by rfl) (.tmp 7) (.tmp 9) 22 22 (by rfl) (.slice (some ⟨B2, 0, none⟩) 0 0) (.slice a2 n2 c2) (by rfl) (by rfl) (.slice p2 n2 q2) w1 (hr _) ?_
    refine hK.out _ _ (HSA.out _ HOn.out.b) (fun _ => ?_)
    simp only [Act.put, List.setIfInBounds_toArray, List.set_cons_zero, List.set_cons_succ]
    clear hK K hr ho HO
    exact owd_0_3_4_7_8 HN HL HM HSA HSP HRJ hQ HOn
  · have HOn := hide HO.out.alloc4
    go_simp
    refine hK.out _ _ (HSA.out _ HOn.out.b) (fun _ => ?_)
    clear hK K HO
    exact owd_0_3_4_8_12 HN HL HM HSA HSP HRJ hQ HOn
set_option maxRecDepth 20000 in
set_option maxHeartbeats 4000000 in
theorem owd_0_3_4_12 {Q : Exit → Act → World → Prop} {w0 W : World} {a1 a2 a3 a4 : Option Addr} {n1 n2 n3 n4 c1 c2 c3 c4 A R : Nat} {f : Int} {x : Jb.J} {x0 : Value} {B1 : Nat} {p1 : Option Addr} {q1 : Nat} {B2 : Nat} {B4 : Nat} (HN : Hid (x.xs.length = n1 ∧ x.ws.length = n2 ∧ x.L.length = n3 ∧ x.M.length = n4)) (HL : Hid (n1 ≤ 1000 ∧ n2 ≤ 1000 ∧ n3 ≤ 1000 ∧ n4 ≤ 1000)) (HM : Hid (∀ X, Below w0.heap.size w0 X → ARow X a1 x.xs ∧ ARow X a2 x.ws ∧ FRow X a3 x.L ∧ FRow X a4 x.M)) (HSA : Hid (∀ X, Below w0.heap.size w0 X → X.cell? ⟨A, 0, none⟩ = some (.slice a1 n1 c1) ∧ X.cell? ⟨A, 1, none⟩ = some (.slice a2 n2 c2) ∧ X.cell? ⟨A, 2, none⟩ = some (.slice a3 n3 c3) ∧ X.cell? ⟨A, 3, none⟩ = some (.slice a4 n4 c4) ∧ X.cell? ⟨A, 4, none⟩ = some (.int .i64 f))) (HSP : Hid (∀ X, Below w0.heap.size w0 X → ∀ v1 v2 v3 v4 v5 : Value, (fun X => X.cell? ⟨A, 0, none⟩ = some (.slice a1 n1 c1) ∧ X.cell? ⟨A, 1, none⟩ = some (.slice a2 n2 c2) ∧ X.cell? ⟨A, 2, none⟩ = some (.slice a3 n3 c3) ∧ X.cell? ⟨A, 3, none⟩ = some (.slice a4 n4 c4) ∧ X.cell? ⟨A, 4, none⟩ = some (.int .i64 f)) (put5 X R v1 v2 v3 v4 v5))) (HRJ : Hid (∀ X, Below w0.heap.size w0 X → JW X R 25 (.slice none 0 0) (.slice none 0 0) (.slice none 0 0) (.slice none 0 0) (.int .i64 0))) (hQ : Hid (∀ B1 B2 B3 B4 p1 q1 p2 q2 p3 q3 p4 q4 X, OW4 w0 X (.slice p1 n1 q1) n1 (ints x.xs) (.slice p2 n2 q2) n2 (ints x.ws) (.slice p3 n3 q3) n3 (mce x.L) (.slice p4 n4 q4) n4 (mce x.M) → Q .normal ⟨#[x0, .pointer (some ⟨A, 0, none⟩), .pointer (some ⟨R, 0, none⟩), .slice (some ⟨B1, 0, none⟩) 0 0, .pointer (some ⟨A, 0, none⟩), .slice a1 n1 c1, .slice p1 n1 q1, .slice (some ⟨B2, 0, none⟩) 0 0, .pointer (some ⟨A, 1, none⟩), .slice a2 n2 c2, .slice p2 n2 q2, .slice (some ⟨B3, 0, none⟩) 0 0, .pointer (some ⟨A, 2, none⟩), .slice a3 n3 c3, .slice p3 n3 q3, .slice (some ⟨B4, 0, none⟩) 0 0, .pointer (some ⟨A, 3, none⟩), .slice a4 n4 c4, .slice p4 n4 q4, .pointer (some ⟨A, 4, none⟩), .int .i64 f, .agg #[.slice p1 n1 q1, .slice p2 n2 q2, .slice p3 n3 q3, .slice p4 n4 q4, .int .i64 f]], []⟩ (put5 X R (.slice p1 n1 q1) (.slice p2 n2 q2) (.slice p3 n3 q3) (.slice p4 n4 q4) (.int .i64 f)))) (HO : Hid (OW4 w0 W (.slice p1 n1 q1) n1 (ints x.xs) (.slice (some ⟨B2, 0, none⟩) 0 0) 0 [] (.slice none 0 0) 0 [] (.slice (some ⟨B4, 0, none⟩) 0 0) 0 [])) :
    wpAnyH Try.prog .any ops16 (NoPanic Q) (fun X => X.cell? ⟨A, 0, none⟩ = some (.slice a1 n1 c1) ∧ X.cell? ⟨A, 1, none⟩ = some (.slice a2 n2 c2) ∧ X.cell? ⟨A, 2, none⟩ = some (.slice a3 n3 c3) ∧ X.cell? ⟨A, 3, none⟩ = some (.slice a4 n4 c4) ∧ X.cell? ⟨A, 4, none⟩ = some (.int .i64 f)) 6 #[true, true, true, true, true, true, true, false, false, true, true, false, true, true, true, false, true, true, false, false] ⟨#[x0, .pointer (some ⟨A, 0, none⟩), .pointer (some ⟨R, 0, none⟩), .slice (some ⟨B1, 0, none⟩) 0 0, .pointer (some ⟨A, 0, none⟩), .slice a1 n1 c1, .slice p1 n1 q1, .slice (some ⟨B2, 0, none⟩) 0 0, .pointer (some ⟨A, 1, none⟩), .slice a2 n2 c2, undef, undef, .pointer (some ⟨A, 2, none⟩), .slice a3 n3 c3, undef, .slice (some ⟨B4, 0, none⟩) 0 0, .pointer (some ⟨A, 3, none⟩), .slice a4 n4 c4, undef, .pointer (some ⟨A, 4, none⟩), .int .i64 f, undef], []⟩ W := by
  unfold ops16
  refine wpAnyH_ready (rs := [7, 8]) (by kernel_rfl) (by simp) ?_
  refine AllReadyH.cons (o := ⟨some 10, _, _, _, _, none⟩) rfl (fun K hK => ?_) (AllReadyH.cons (o := ⟨some 11, _, _, _, _, none⟩) rfl (fun K hK => ?_) (AllReadyH.nil))
  · obtain ⟨p2, q2, w1, hr, ho⟩ := HO.out.app2 (c := c2) HN.out.2.1 HL.out.2.1 (HM.out _ HO.out.b).2.1
    have HOn := hide ho
    refine step16 (by rfl) (.tmp 7) (.tmp 9) 22 22 (by rfl) (.slice (some ⟨B2, 0, none⟩) 0 0) (.slice a2 n2 c2) (by rfl) (by rfl) (.slice p2 n2 q2) w1 (hr _) ?_
    refine hK.out _ _ (HSA.out _ HOn.out.b) (fun _ => ?_)
    simp only [Act.put, List.setIfInBounds_toArray, List.set_cons_zero, List.set_cons_succ]
    clear hK K hr ho HO
    exact owd_0_3_4_7_12 HN HL HM HSA HSP HRJ hQ HOn
  · have HOn := hide HO.out.alloc3
    go_simp
    refine hK.out _ _ (HSA.out _ HOn.out.b) (fun _ => ?_)
    clear hK K HO
    exact owd_0_3_4_8_12 HN HL HM HSA HSP HRJ hQ HOn
set_option maxRecDepth 20000 in
set_option maxHeartbeats 4000000 in
theorem owd_0_3_8_12 {Q : Exit → Act → World → Prop} {w0 W : World} {a1 a2 a3 a4 : Option Addr} {n1 n2 n3 n4 c1 c2 c3 c4 A R : Nat} {f : Int} {x : Jb.J} {x0 : Value} {B1 : Nat} {p1 : Option Addr} {q1 : Nat} {B3 : Nat} {B4 : Nat} (HN : Hid (x.xs.length = n1 ∧ x.ws.length = n2 ∧ x.L.length = n3 ∧ x.M.length = n4)) (HL : Hid (n1 ≤ 1000 ∧ n2 ≤ 1000 ∧ n3 ≤ 1000 ∧ n4 ≤ 1000)) (HM : Hid (∀ X, Below w0.heap.size w0 X → ARow X a1 x.xs ∧ ARow X a2 x.ws ∧ FRow X a3 x.L ∧ FRow X a4 x.M)) (HSA : Hid (∀ X, Below w0.heap.size w0 X → X.cell? ⟨A, 0, none⟩ = some (.slice a1 n1 c1) ∧ X.cell? ⟨A, 1, none⟩ = some (.slice a2 n2 c2) ∧ X.cell? ⟨A, 2, none⟩ = some (.slice a3 n3 c3) ∧ X.cell? ⟨A, 3, none⟩ = some (.slice a4 n4 c4) ∧ X.cell? ⟨A, 4, none⟩ = some (.int .i64 f))) (HSP : Hid (∀ X, Below w0.heap.size w0 X → ∀ v1 v2 v3 v4 v5 : Value, (fun X => X.cell? ⟨A, 0, none⟩ = some (.slice a1 n1 c1) ∧ X.cell? ⟨A, 1, none⟩ = some (.slice a2 n2 c2) ∧ X.cell? ⟨A, 2, none⟩ = some (.slice a3 n3 c3) ∧ X.cell? ⟨A, 3, none⟩ = some (.slice a4 n4 c4) ∧ X.cell? ⟨A, 4, none⟩ = some (.int .i64 f)) (put5 X R v1 v2 v3 v4 v5))) (HRJ : Hid (∀ X, Below w0.heap.size w0 X → JW X R 25 (.slice none 0 0) (.slice none 0 0) (.slice none 0 0) (.slice none 0 0) (.int .i64 0))) (hQ : Hid (∀ B1 B2 B3 B4 p1 q1 p2 q2 p3 q3 p4 q4 X, OW4 w0 X (.slice p1 n1 q1) n1 (ints x.xs) (.slice p2 n2 q2) n2 (ints x.ws) (.slice p3 n3 q3) n3 (mce x.L) (.slice p4 n4 q4) n4 (mce x.M) → Q .normal ⟨#[x0, .pointer (some ⟨A, 0, none⟩), .pointer (some ⟨R, 0, none⟩), .slice (some ⟨B1, 0, none⟩) 0 0, .pointer (some ⟨A, 0, none⟩), .slice a1 n1 c1, .slice p1 n1 q1, .slice (some ⟨B2, 0, none⟩) 0 0, .pointer (some ⟨A, 1, none⟩), .slice a2 n2 c2, .slice p2 n2 q2, .slice (some ⟨B3, 0, none⟩) 0 0, .pointer (some ⟨A, 2, none⟩), .slice a3 n3 c3, .slice p3 n3 q3, .slice (some ⟨B4, 0, none⟩) 0 0, .pointer (some ⟨A, 3, none⟩), .slice a4 n4 c4, .slice p4 n4 q4, .pointer (some ⟨A, 4, none⟩), .int .i64 f, .agg #[.slice p1 n1 q1, .slice p2 n2 q2, .slice p3 n3 q3, .slice p4 n4 q4, .int .i64 f]], []⟩ (put5 X R (.slice p1 n1 q1) (.slice p2 n2 q2) (.slice p3 n3 q3) (.slice p4 n4 q4) (.int .i64 f)))) (HO : Hid (OW4 w0 W (.slice p1 n1 q1) n1 (ints x.xs) (.slice none 0 0) 0 [] (.slice (some ⟨B3, 0, none⟩) 0 0) 0 [] (.slice (some ⟨B4, 0, none⟩) 0 0) 0 [])) :
    wpAnyH Try.prog .any ops16 (NoPanic Q) (fun X => X.cell? ⟨A, 0, none⟩ = some (.slice a1 n1 c1) ∧ X.cell? ⟨A, 1, none⟩ = some (.slice a2 n2 c2) ∧ X.cell? ⟨A, 2, none⟩ = some (.slice a3 n3 c3) ∧ X.cell? ⟨A, 3, none⟩ = some (.slice a4 n4 c4) ∧ X.cell? ⟨A, 4, none⟩ = some (.int .i64 f)) 6 #[true, true, true, true, false, true, true, false, true, true, true, false, true, true, true, false, true, true, false, false] ⟨#[x0, .pointer (some ⟨A, 0, none⟩), .pointer (some ⟨R, 0, none⟩), .slice (some ⟨B1, 0, none⟩) 0 0, .pointer (some ⟨A, 0, none⟩), .slice a1 n1 c1, .slice p1 n1 q1, undef, .pointer (some ⟨A, 1, none⟩), .slice a2 n2 c2, undef, .slice (some ⟨B3, 0, none⟩) 0 0, .pointer (some ⟨A, 2, none⟩), .slice a3 n3 c3, undef, .slice (some ⟨B4, 0, none⟩) 0 0, .pointer (some ⟨A, 3, none⟩), .slice a4 n4 c4, undef, .pointer (some ⟨A, 4, none⟩), .int .i64 f, undef], []⟩ W := by
  unfold ops16
  refine wpAnyH_ready (rs := [4]) (by kernel_rfl) (by simp) ?_
  refine AllReadyH.cons (o := ⟨some 7, _, _, _, _, none⟩) rfl (fun K hK => ?_) (AllReadyH.nil)
  · have HOn := hide HO.out.alloc2
    go_simp
    refine hK.out _ _ (HSA.out _ HOn.out.b) (fun _ => ?_)
    clear hK K HO
    exact owd_0_3_4_8_12 HN HL HM HSA HSP HRJ hQ HOn
set_option maxRecDepth 20000 in
set_option maxHeartbeats 4000000 in
theorem owd_0_4_8_12 {Q : Exit → Act → World → Prop} {w0 W : World} {a1 a2 a3 a4 : Option Addr} {n1 n2 n3 n4 c1 c2 c3 c4 A R : Nat} {f : Int} {x : Jb.J} {x0 : Value} {B1 : Nat} {B2 : Nat} {B3 : Nat} {B4 : Nat} (HN : Hid (x.xs.length = n1 ∧ x.ws.length = n2 ∧ x.L.length = n3 ∧ x.M.length = n4)) (HL : Hid (n1 ≤ 1000 ∧ n2 ≤ 1000 ∧ n3 ≤ 1000 ∧ n4 ≤ 1000)) (HM : Hid (∀ X, Below w0.heap.size w0 X → ARow X a1 x.xs ∧ ARow X a2 x.ws ∧ FRow X a3 x.L ∧ FRow X a4 x.M)) (HSA : Hid (∀ X, Below w0.heap.size w0 X → X.cell? ⟨A, 0, none⟩ = some (.slice a1 n1 c1) ∧ X.cell? ⟨A, 1, none⟩ = some (.slice a2 n2 c2) ∧ X.cell? ⟨A, 2, none⟩ = some (.slice a3 n3 c3) ∧ X.cell? ⟨A, 3, none⟩ = some (.slice a4 n4 c4) ∧ X.cell? ⟨A, 4, none⟩ = some (.int .i64 f))) (HSP : Hid (∀ X, Below w0.heap.size w0 X → ∀ v1 v2 v3 v4 v5 : Value, (fun X => X.cell? ⟨A, 0, none⟩ = some (.slice a1 n1 c1) ∧ X.cell? ⟨A, 1, none⟩ = some (.slice a2 n2 c2) ∧ X.cell? ⟨A, 2, none⟩ = some (.slice a3 n3 c3) ∧ X.cell? ⟨A, 3, none⟩ = some (.slice a4 n4 c4) ∧ X.cell? ⟨A, 4, none⟩ = some (.int .i64 f)) (put5 X R v1 v2 v3 v4 v5))) (HRJ : Hid (∀ X, Below w0.heap.size w0 X → JW X R 25 (.slice none 0 0) (.slice none 0 0) (.slice none 0 0) (.slice none 0 0) (.int .i64 0))) (hQ : Hid (∀ B1 B2 B3 B4 p1 q1 p2 q2 p3 q3 p4 q4 X, OW4 w0 X (.slice p1 n1 q1) n1 (ints x.xs) (.slice p2 n2 q2) n2 (ints x.ws) (.slice p3 n3 q3) n3 (mce x.L) (.slice p4 n4 q4) n4 (mce x.M) → Q .normal ⟨#[x0, .pointer (some ⟨A, 0, none⟩), .pointer (some ⟨R, 0, none⟩), .slice (some ⟨B1, 0, none⟩) 0 0, .pointer (some ⟨A, 0, none⟩), .slice a1 n1 c1, .slice p1 n1 q1, .slice (some ⟨B2, 0, none⟩) 0 0, .pointer (some ⟨A, 1, none⟩), .slice a2 n2 c2, .slice p2 n2 q2, .slice (some ⟨B3, 0, none⟩) 0 0, .pointer (some ⟨A, 2, none⟩), .slice a3 n3 c3, .slice p3 n3 q3, .slice (some ⟨B4, 0, none⟩) 0 0, .pointer (some ⟨A, 3, none⟩), .slice a4 n4 c4, .slice p4 n4 q4, .pointer (some ⟨A, 4, none⟩), .int .i64 f, .agg #[.slice p1 n1 q1, .slice p2 n2 q2, .slice p3 n3 q3, .slice p4 n4 q4, .int .i64 f]], []⟩ (put5 X R (.slice p1 n1 q1) (.slice p2 n2 q2) (.slice p3 n3 q3) (.slice p4 n4 q4) (.int .i64 f)))) (HO : Hid (OW4 w0 W (.slice (some ⟨B1, 0, none⟩) 0 0) 0 [] (.slice (some ⟨B2, 0, none⟩) 0 0) 0 [] (.slice (some ⟨B3, 0, none⟩) 0 0) 0 [] (.slice (some ⟨B4, 0, none⟩) 0 0) 0 [])) :
    wpAnyH Try.prog .any ops16 (NoPanic Q) (fun X => X.cell? ⟨A, 0, none⟩ = some (.slice a1 n1 c1) ∧ X.cell? ⟨A, 1, none⟩ = some (.slice a2 n2 c2) ∧ X.cell? ⟨A, 2, none⟩ = some (.slice a3 n3 c3) ∧ X.cell? ⟨A, 3, none⟩ = some (.slice a4 n4 c4) ∧ X.cell? ⟨A, 4, none⟩ = some (.int .i64 f)) 6 #[true, true, true, false, true, true, true, false, true, true, true, false, true, true, true, false, true, true, false, false] ⟨#[x0, .pointer (some ⟨A, 0, none⟩), .pointer (some ⟨R, 0, none⟩), .slice (some ⟨B1, 0, none⟩) 0 0, .pointer (some ⟨A, 0, none⟩), .slice a1 n1 c1, undef, .slice (some ⟨B2, 0, none⟩) 0 0, .pointer (some ⟨A, 1, none⟩), .slice a2 n2 c2, undef, .slice (some ⟨B3, 0, none⟩) 0 0, .pointer (some ⟨A, 2, none⟩), .slice a3 n3 c3, undef, .slice (some ⟨B4, 0, none⟩) 0 0, .pointer (some ⟨A, 3, none⟩), .slice a4 n4 c4, undef, .pointer (some ⟨A, 4, none⟩), .int .i64 f, undef], []⟩ W := by
  unfold ops16
  refine wpAnyH_ready (rs := [3]) (by kernel_rfl) (by simp) ?_
  refine AllReadyH.cons (o := ⟨some 6, _, _, _, _, none⟩) rfl (fun K hK => ?_) (AllReadyH.nil)
  · obtain ⟨p1, q1, w1, hr, ho⟩ := HO.out.app1 (c := c1) HN.out.1 HL.out.1 (HM.out _ HO.out.b).1
    have HOn := hide ho
    refine step16 (by rfl) (.tmp 3) (.tmp 5) 22 22 (by rfl) (.slice (some ⟨B1, 0, none⟩) 0 0) (.slice a1 n1 c1) (by rfl) (by rfl) (.slice p1 n1 q1) w1 (hr _) ?_
    refine hK.out _ _ (HSA.out _ HOn.out.b) (fun _ => ?_)
    simp only [Act.put, List.setIfInBounds_toArray, List.set_cons_zero, List.set_cons_succ]
    clear hK K hr ho HO
    exact owd_0_3_4_8_12 HN HL HM HSA HSP HRJ hQ HOn
set_option maxRecDepth 20000 in
set_option maxHeartbeats 4000000 in
theorem owd_0_3_4 {Q : Exit → Act → World → Prop} {w0 W : World} {a1 a2 a3 a4 : Option Addr} {n1 n2 n3 n4 c1 c2 c3 c4 A R : Nat} {f : Int} {x : Jb.J} {x0 : Value} {B1 : Nat} {p1 : Option Addr} {q1 : Nat} {B2 : Nat} (HN : Hid (x.xs.length = n1 ∧ x.ws.length = n2 ∧ x.L.length = n3 ∧ x.M.length = n4)) (HL : Hid (n1 ≤ 1000 ∧ n2 ≤ 1000 ∧ n3 ≤ 1000 ∧ n4 ≤ 1000)) (HM : Hid (∀ X, Below w0.heap.size w0 X → ARow X a1 x.xs ∧ ARow X a2 x.ws ∧ FRow X a3 x.L ∧ FRow X a4 x.M)) (HSA : Hid (∀ X, Below w0.heap.size w0 X → X.cell? ⟨A, 0, none⟩ = some (.slice a1 n1 c1) ∧ X.cell? ⟨A, 1, none⟩ = some (.slice a2 n2 c2) ∧ X.cell? ⟨A, 2, none⟩ = some (.slice a3 n3 c3) ∧ X.cell? ⟨A, 3, none⟩ = some (.slice a4 n4 c4) ∧ X.cell? ⟨A, 4, none⟩ = some (.int .i64 f))) (HSP : Hid (∀ X, Below w0.heap.size w0 X → ∀ v1 v2 v3 v4 v5 : Value, (fun X => X.cell? ⟨A, 0, none⟩ = some (.slice a1 n1 c1) ∧ X.cell? ⟨A, 1, none⟩ = some (.slice a2 n2 c2) ∧ X.cell? ⟨A, 2, none⟩ = some (.slice a3 n3 c3) ∧ X.cell? ⟨A, 3, none⟩ = some (.slice a4 n4 c4) ∧ X.cell? ⟨A, 4, none⟩ = some (.int .i64 f)) (put5 X R v1 v2 v3 v4 v5))) (HRJ : Hid (∀ X, Below w0.heap.size w0 X → JW X R 25 (.slice none 0 0) (.slice none 0 0) (.slice none 0 0) (.slice none 0 0) (.int .i64 0))) (hQ : Hid (∀ B1 B2 B3 B4 p1 q1 p2 q2 p3 q3 p4 q4 X, OW4 w0 X (.slice p1 n1 q1) n1 (ints x.xs) (.slice p2 n2 q2) n2 (ints x.ws) (.slice p3 n3 q3) n3 (mce x.L) (.slice p4 n4 q4) n4 (mce x.M) → Q .normal ⟨#[x0, .pointer (some ⟨A, 0, none⟩), .pointer (some ⟨R, 0, none⟩), .slice (some ⟨B1, 0, none⟩) 0 0, .pointer (some ⟨A, 0, none⟩), .slice a1 n1 c1, .slice p1 n1 q1, .slice (some ⟨B2, 0, none⟩) 0 0, .pointer (some ⟨A, 1, none⟩), .slice a2 n2 c2, .slice p2 n2 q2, .slice (some ⟨B3, 0, none⟩) 0 0, .pointer (some ⟨A, 2, none⟩), .slice a3 n3 c3, .slice p3 n3 q3, .slice (some ⟨B4, 0, none⟩) 0 0, .pointer (some ⟨A, 3, none⟩), .slice a4 n4 c4, .slice p4 n4 q4, .pointer (some ⟨A, 4, none⟩), .int .i64 f, .agg #[.slice p1 n1 q1, .slice p2 n2 q2, .slice p3 n3 q3, .slice p4 n4 q4, .int .i64 f]], []⟩ (put5 X R (.slice p1 n1 q1) (.slice p2 n2 q2) (.slice p3 n3 q3) (.slice p4 n4 q4) (.int .i64 f)))) (HO : Hid (OW4 w0 W (.slice p1 n1 q1) n1 (ints x.xs) (.slice (some ⟨B2, 0, none⟩) 0 0) 0 [] (.slice none 0 0) 0 [] (.slice none 0 0) 0 [])) :
    wpAnyH Try.prog .any ops16 (NoPanic Q) (fun X => X.cell? ⟨A, 0, none⟩ = some (.slice a1 n1 c1) ∧ X.cell? ⟨A, 1, none⟩ = some (.slice a2 n2 c2) ∧ X.cell? ⟨A, 2, none⟩ = some (.slice a3 n3 c3) ∧ X.cell? ⟨A, 3, none⟩ = some (.slice a4 n4 c4) ∧ X.cell? ⟨A, 4, none⟩ = some (.int .i64 f)) 7 #[true, true, true, true, true, true, true, false, false, true, true, false, false, true, true, false, true, true, false, false] ⟨#[x0, .pointer (some ⟨A, 0, none⟩), .pointer (some ⟨R, 0, none⟩), .slice (some ⟨B1, 0, none⟩) 0 0, .pointer (some ⟨A, 0, none⟩), .slice a1 n1 c1, .slice p1 n1 q1, .slice (some ⟨B2, 0, none⟩) 0 0, .pointer (some ⟨A, 1, none⟩), .slice a2 n2 c2, undef, undef, .pointer (some ⟨A, 2, none⟩), .slice a3 n3 c3, undef, undef, .pointer (some ⟨A, 3, none⟩), .slice a4 n4 c4, undef, .pointer (some ⟨A, 4, none⟩), .int .i64 f, undef], []⟩ W := by
  unfold ops16
  refine wpAnyH_ready (rs := [7, 8, 12]) (by kernel_rfl) (by simp) ?_
  refine AllReadyH.cons (o := ⟨some 10, _, _, _, _, none⟩) rfl (fun K hK => ?_) (AllReadyH.cons (o := ⟨some 11, _, _, _, _, none⟩) rfl (fun K hK => ?_) (AllReadyH.cons (o := ⟨some 15, _, _, _, _, none⟩) rfl (fun K hK => ?_) (AllReadyH.nil)))
  · obtain ⟨p2, q2, w1, hr, ho⟩ := HO.out.app2 (c := c2) HN.out.2.1 HL.out.2.1 (HM.out _ HO.out.b).2.1
    have HOn := hide ho
    refine step16 (by rfl) (.tmp 7) (.tmp 9) 22 22 (by rfl) (.slice (some ⟨B2, 0, none⟩) 0 0) (.slice a2 n2 c2) (by rfl) (by rfl) (.slice p2 n2 q2) w1 (hr _) ?_
    refine hK.out _ _ (HSA.out _ HOn.out.b) (fun _ => ?_)
    simp only [Act.put, List.setIfInBounds_toArray, List.set_cons_zero, List.set_cons_succ]
    clear hK K hr ho HO
    exact owd_0_3_4_7 HN HL HM HSA HSP HRJ hQ HOn
  · have HOn := hide HO.out.alloc3
    go_simp
    refine hK.out _ _ (HSA.out _ HOn.out.b) (fun _ => ?_)
    clear hK K HO
    exact owd_0_3_4_8 HN HL HM HSA HSP HRJ hQ HOn
  · have HOn := hide HO.out.alloc4
    go_simp
    refine hK.out _ _ (HSA.out _ HOn.out.b) (fun _ => ?_)
    clear hK K HO
    exact owd_0_3_4_12 HN HL HM HSA HSP HRJ hQ HOn
set_option maxRecDepth 20000 in
set_option maxHeartbeats 4000000 in
theorem owd_0_3_8 {Q : Exit → Act → World → Prop} {w0 W : World} {a1 a2 a3 a4 : Option Addr} {n1 n2 n3 n4 c1 c2 c3 c4 A R : Nat} {f : Int} {x : Jb.J} {x0 : Value} {B1 : Nat} {p1 : Option Addr} {q1 : Nat} {B3 : Nat} (HN : Hid (x.xs.length = n1 ∧ x.ws.length = n2 ∧ x.L.length = n3 ∧ x.M.length = n4)) (HL : Hid (n1 ≤ 1000 ∧ n2 ≤ 1000 ∧ n3 ≤ 1000 ∧ n4 ≤ 1000)) (HM : Hid (∀ X, Below w0.heap.size w0 X → ARow X a1 x.xs ∧ ARow X a2 x.ws ∧ FRow X a3 x.L ∧ FRow X a4 x.M)) (HSA : Hid (∀ X, Below w0.heap.size w0 X → X.cell? ⟨A, 0, none⟩ = some (.slice a1 n1 c1) ∧ X.cell? ⟨A, 1, none⟩ = some (.slice a2 n2 c2) ∧ X.cell? ⟨A, 2, none⟩ = some (.slice a3 n3 c3) ∧ X.cell? ⟨A, 3, none⟩ = some (.slice a4 n4 c4) ∧ X.cell? ⟨A, 4, none⟩ = some (.int .i64 f))) (HSP : Hid (∀ X, Below w0.heap.size w0 X → ∀ v1 v2 v3 v4 v5 : Value, (fun X => X.cell? ⟨A, 0, none⟩ = some (.slice a1 n1 c1) ∧ X.cell? ⟨A, 1, none⟩ = some (.slice a2 n2 c2) ∧ X.cell? ⟨A, 2, none⟩ = some (.slice a3 n3 c3) ∧ X.cell? ⟨A, 3, none⟩ = some (.slice a4 n4 c4) ∧ X.cell? ⟨A, 4, none⟩ = some (.int .i64 f)) (put5 X R v1 v2 v3 v4 v5))) (HRJ : Hid (∀ X, Below w0.heap.size w0 X → JW X R 25 (.slice none 0 0) (.slice none 0 0) (.slice none 0 0) (.slice none 0 0) (.int .i64 0))) (hQ : Hid (∀ B1 B2 B3 B4 p1 q1 p2 q2 p3 q3 p4 q4 X, OW4 w0 X (.slice p1 n1 q1) n1 (ints x.xs) (.slice p2 n2 q2) n2 (ints x.ws) (.slice p3 n3 q3) n3 (mce x.L) (.slice p4 n4 q4) n4 (mce x.M) → Q .normal ⟨#[x0, .pointer (some ⟨A, 0, none⟩), .pointer (some ⟨R, 0, none⟩), .slice (some ⟨B1, 0, none⟩) 0 0, .pointer (some ⟨A, 0, none⟩), .slice a1 n1 c1, .slice p1 n1 q1, .slice (some ⟨B2, 0, none⟩) 0 0, .pointer (some ⟨A, 1, none⟩), .slice a2 n2 c2, .slice p2 n2 q2, .slice (some ⟨B3, 0, none⟩) 0 0, .pointer (some ⟨A, 2, none⟩), .slice a3 n3 c3, .slice p3 n3 q3, .slice (some ⟨B4, 0, none⟩) 0 0, .pointer (some ⟨A, 3, none⟩), .slice a4 n4 c4, .slice p4 n4 q4, .pointer (some ⟨A, 4, none⟩), .int .i64 f, .agg #[.slice p1 n1 q1, .slice p2 n2 q2, .slice p3 n3 q3, .slice p4 n4 q4, .int .i64 f]], []⟩ (put5 X R (.slice p1 n1 q1) (.slice p2 n2 q2) (.slice p3 n3 q3) (.slice p4 n4 q4) (.int .i64 f)))) (HO : Hid (OW4 w0 W (.slice p1 n1 q1) n1 (ints x.xs) (.slice none 0 0) 0 [] (.slice (some ⟨B3, 0, none⟩) 0 0) 0 [] (.slice none 0 0) 0 [])) :
    wpAnyH Try.prog .any ops16 (NoPanic Q) (fun X => X.cell? ⟨A, 0, none⟩ = some (.slice a1 n1 c1) ∧ X.cell? ⟨A, 1, none⟩ = some (.slice a2 n2 c2) ∧ X.cell? ⟨A, 2, none⟩ = some (.slice a3 n3 c3) ∧ X.cell? ⟨A, 3, none⟩ = some (.slice a4 n4 c4) ∧ X.cell? ⟨A, 4, none⟩ = some (.int .i64 f)) 7 #[true, true, true, true, false, true, true, false, true, true, true, false, false, true, true, false, true, true, false, false] ⟨#[x0, .pointer (some ⟨A, 0, none⟩), .pointer (some ⟨R, 0, none⟩), .slice (some ⟨B1, 0, none⟩) 0 0, .pointer (some ⟨A, 0, none⟩), .slice a1 n1 c1, .slice p1 n1 q1, undef, .pointer (some ⟨A, 1, none⟩), .slice a2 n2 c2, undef, .slice (some ⟨B3, 0, none⟩) 0 0, .pointer (some ⟨A, 2, none⟩), .slice a3 n3 c3, undef, undef, .pointer (some ⟨A, 3, none⟩), .slice a4 n4 c4, undef, .pointer (some ⟨A, 4, none⟩), .int .i64 f, undef], []⟩ W := by
  unfold ops16
  refine wpAnyH_ready (rs := [4, 12]) (by kernel_rfl) (by simp) ?_
  refine AllReadyH.cons (o := ⟨some 7, _, _, _, _, none⟩) rfl (fun K hK => ?_) (AllReadyH.cons (o := ⟨some 15, _, _, _, _, none⟩) rfl (fun K hK => ?_) (AllReadyH.nil))
  · have HOn := hide HO.out.alloc2
    go_simp
    refine hK.out _ _ (HSA.out _ HOn.out.b) (fun _ => ?_)
    clear hK K HO
    exact owd_0_3_4_8 HN HL HM HSA HSP HRJ hQ HOn
  · have HOn := hide HO.out.alloc4
    go_simp
    refine hK.out _ _ (HSA.out _ HOn.out.b) (fun _ => ?_)
    clear hK K HO
    exact owd_0_3_8_12 HN HL HM HSA HSP HRJ hQ HOn
set_option maxRecDepth 20000 in
set_option maxHeartbeats 4000000 in
theorem owd_0_3_12 {Q : Exit → Act → World → Prop} {w0 W : World} {a1 a2 a3 a4 : Option Addr} {n1 n2 n3 n4 c1 c2 c3 c4 A R : Nat} {f : Int} {x : Jb.J} {x0 : Value} {B1 : Nat} {p1 : Option Addr} {q1 : Nat} {B4 : Nat} (HN : Hid (x.xs.length = n1 ∧ x.ws.length = n2 ∧ x.L.length = n3 ∧ x.M.length = n4)) (HL : Hid (n1 ≤ 1000 ∧ n2 ≤ 1000 ∧ n3 ≤ 1000 ∧ n4 ≤ 1000)) (HM : Hid (∀ X, Below w0.heap.size w0 X → ARow X a1 x.xs ∧ ARow X a2 x.ws ∧ FRow X a3 x.L ∧ FRow X a4 x.M)) (HSA : Hid (∀ X, Below w0.heap.size w0 X → X.cell? ⟨A, 0, none⟩ = some (.slice a1 n1 c1) ∧ X.cell? ⟨A, 1, none⟩ = some (.slice a2 n2 c2) ∧ X.cell? ⟨A, 2, none⟩ = some (.slice a3 n3 c3) ∧ X.cell? ⟨A, 3, none⟩ = some (.slice a4 n4 c4) ∧ X.cell? ⟨A, 4, none⟩ = some (.int .i64 f))) (HSP : Hid (∀ X, Below w0.heap.size w0 X → ∀ v1 v2 v3 v4 v5 : Value, (fun X => X.cell? ⟨A, 0, none⟩ = some (.slice a1 n1 c1) ∧ X.cell? ⟨A, 1, none⟩ = some (.slice a2 n2 c2) ∧ X.cell? ⟨A, 2, none⟩ = some (.slice a3 n3 c3) ∧ X.cell? ⟨A, 3, none⟩ = some (.slice a4 n4 c4) ∧ X.cell? ⟨A, 4, none⟩ = some (.int .i64 f)) (put5 X R v1 v2 v3 v4 v5))) (HRJ : Hid (∀ X, Below w0.heap.size w0 X → JW X R 25 (.slice none 0 0) (.slice none 0 0) (.slice none 0 0) (.slice none 0 0) (.int .i64 0))) (hQ : Hid (∀ B1 B2 B3 B4 p1 q1 p2 q2 p3 q3 p4 q4 X, OW4 w0 X (.slice p1 n1 q1) n1 (ints x.xs) (.slice p2 n2 q2) n2 (ints x.ws) (.slice p3 n3 q3) n3 (mce x.L) (.slice p4 n4 q4) n4 (mce x.M) → Q .normal ⟨#[x0, .pointer (some ⟨A, 0, none⟩), .pointer (some ⟨R, 0, none⟩), .slice (some ⟨B1, 0, none⟩) 0 0, .pointer (some ⟨A, 0, none⟩), .slice a1 n1 c1, .slice p1 n1 q1, .slice (some ⟨B2, 0, none⟩) 0 0, .pointer (some ⟨A, 1, none⟩), .slice a2 n2 c2, .slice p2 n2 q2, .slice (some ⟨B3, 0, none⟩) 0 0, .pointer (some ⟨A, 2, none⟩), .slice a3 n3 c3, .slice p3 n3 q3, .slice (some ⟨B4, 0, none⟩) 0 0, .pointer (some ⟨A, 3, none⟩), .slice a4 n4 c4, .slice p4 n4 q4, .pointer (some ⟨A, 4, none⟩), .int .i64 f, .agg #[.slice p1 n1 q1, .slice p2 n2 q2, .slice p3 n3 q3, .slice p4 n4 q4, .int .i64 f]], []⟩ (put5 X R (.slice p1 n1 q1) (.slice p2 n2 q2) (.slice p3 n3 q3) (.slice p4 n4 q4) (.int .i64 f)))) (HO : Hid (OW4 w0 W (.slice p1 n1 q1) n1 (ints x.xs) (.slice none 0 0) 0 [] (.slice none 0 0) 0 [] (.slice (some ⟨B4, 0, none⟩) 0 0) 0 [])) :
    wpAnyH Try.prog .any ops16 (NoPanic Q) (fun X => X.cell? ⟨A, 0, none⟩ = some (.slice a1 n1 c1) ∧ X.cell? ⟨A, 1, none⟩ = some (.slice a2 n2 c2) ∧ X.cell? ⟨A, 2, none⟩ = some (.slice a3 n3 c3) ∧ X.cell? ⟨A, 3, none⟩ = some (.slice a4 n4 c4) ∧ X.cell? ⟨A, 4, none⟩ = some (.int .i64 f)) 7 #[true, true, true, true, false, true, true, false, false, true, true, false, true, true, true, false, true, true, false, false] ⟨#[x0, .pointer (some ⟨A, 0, none⟩), .pointer (some ⟨R, 0, none⟩), .slice (some ⟨B1, 0, none⟩) 0 0, .pointer (some ⟨A, 0, none⟩), .slice a1 n1 c1, .slice p1 n1 q1, undef, .pointer (some ⟨A, 1, none⟩), .slice a2 n2 c2, undef, undef, .pointer (some ⟨A, 2, none⟩), .slice a3 n3 c3, undef, .slice (some ⟨B4, 0, none⟩) 0 0, .pointer (some ⟨A, 3, none⟩), .slice a4 n4 c4, undef, .pointer (some ⟨A, 4, none⟩), .int .i64 f, undef], []⟩ W := by
  unfold ops16
  refine wpAnyH_ready (rs := [4, 8]) (by kernel_rfl) (by simp) ?_
  refine AllReadyH.cons (o := ⟨some 7, _, _, _, _, none⟩) rfl (fun K hK => ?_) (AllReadyH.cons (o := ⟨some 11, _, _, _, _, none⟩) rfl (fun K hK => ?_) (AllReadyH.nil))
  · have HOn := hide HO.out.alloc2
    go_simp
    refine hK.out _ _ (HSA.out _ HOn.out.b) (fun _ => ?_)
    clear hK K HO
    exact owd_0_3_4_12 HN HL HM HSA HSP HRJ hQ HOn
  · have HOn := hide HO.out.alloc3
    go_simp
    refine hK.out _ _ (HSA.out _ HOn.out.b) (fun _ => ?_)
    clear hK K HO
    exact owd_0_3_8_12 HN HL HM HSA HSP HRJ hQ HOn
set_option maxRecDepth 20000 in
set_option maxHeartbeats 4000000 in
theorem owd_0_4_8 {Q : Exit → Act → World → Prop} {w0 W : World} {a1 a2 a3 a4 : Option Addr} {n1 n2 n3 n4 c1 c2 c3 c4 A R : Nat} {f : Int} {x : Jb.J} {x0 : Value} {B1 : Nat} {B2 : Nat} {B3 : Nat} (HN : Hid (x.xs.length = n1 ∧ x.ws.length = n2 ∧ x.L.length = n3 ∧ x.M.length = n4)) (HL : Hid (n1 ≤ 1000 ∧ n2 ≤ 1000 ∧ n3 ≤ 1000 ∧ n4 ≤ 1000)) (HM : Hid (∀ X, Below w0.heap.size w0 X → ARow X a1 x.xs ∧ ARow X a2 x.ws ∧ FRow X a3 x.L ∧ FRow X a4 x.M)) (HSA : Hid (∀ X, Below w0.heap.size w0 X → X.cell? ⟨A, 0, none⟩ = some (.slice a1 n1 c1) ∧ X.cell? ⟨A, 1, none⟩ = some (.slice a2 n2 c2) ∧ X.cell? ⟨A, 2, none⟩ = some (.slice a3 n3 c3) ∧ X.cell? ⟨A, 3, none⟩ = some (.slice a4 n4 c4) ∧ X.cell? ⟨A, 4, none⟩ = some (.int .i64 f))) (HSP : Hid (∀ X, Below w0.heap.size w0 X → ∀ v1 v2 v3 v4 v5 : Value, (fun X => X.cell? ⟨A, 0, none⟩ = some (.slice a1 n1 c1) ∧ X.cell? ⟨A, 1, none⟩ = some (.slice a2 n2 c2) ∧ X.cell? ⟨A, 2, none⟩ = some (.slice a3 n3 c3) ∧ X.cell? ⟨A, 3, none⟩ = some (.slice a4 n4 c4) ∧ X.cell? ⟨A, 4, none⟩ = some (.int .i64 f)) (put5 X R v1 v2 v3 v4 v5))) (HRJ : Hid (∀ X, Below w0.heap.size w0 X → JW X R 25 (.slice none 0 0) (.slice none 0 0) (.slice none 0 0) (.slice none 0 0) (.int .i64 0))) (hQ : Hid (∀ B1 B2 B3 B4 p1 q1 p2 q2 p3 q3 p4 q4 X, OW4 w0 X (.slice p1 n1 q1) n1 (ints x.xs) (.slice p2 n2 q2) n2 (ints x.ws) (.slice p3 n3 q3) n3 (mce x.L) (.slice p4 n4 q4) n4 (mce x.M) → Q .normal ⟨#[x0, .pointer (some ⟨A, 0, none⟩), .pointer (some ⟨R, 0, none⟩), .slice (some ⟨B1, 0, none⟩) 0 0, .pointer (some ⟨A, 0, none⟩), .slice a1 n1 c1, .slice p1 n1 q1, .slice (some ⟨B2, 0, none⟩) 0 0, .pointer (some ⟨A, 1, none⟩), .slice a2 n2 c2, .slice p2 n2 q2, .slice (some ⟨B3, 0, none⟩) 0 0, .pointer (some ⟨A, 2, none⟩), .slice a3 n3 c3, .slice p3 n3 q3, .slice (some ⟨B4, 0, none⟩) 0 0, .pointer (some ⟨A, 3, none⟩), .slice a4 n4 c4, .slice p4 n4 q4, .pointer (some ⟨A, 4, none⟩), .int .i64 f, .agg #[.slice p1 n1 q1, .slice p2 n2 q2, .slice p3 n3 q3, .slice p4 n4 q4, .int .i64 f]], []⟩ (put5 X R (.slice p1 n1 q1) (.slice p2 n2 q2) (.slice p3 n3 q3) (.slice p4 n4 q4) (.int .i64 f)))) (HO : Hid (OW4 w0 W (.slice (some ⟨B1, 0, none⟩) 0 0) 0 [] (.slice (some ⟨B2, 0, none⟩) 0 0) 0 [] (.slice (some ⟨B3, 0, none⟩) 0 0) 0 [] (.slice none 0 0) 0 [])) :
    wpAnyH Try.prog .any ops16 (NoPanic Q) (fun X => X.cell? ⟨A, 0, none⟩ = some (.slice a1 n1 c1) ∧ X.cell? ⟨A, 1, none⟩ = some (.slice a2 n2 c2) ∧ X.cell? ⟨A, 2, none⟩ = some (.slice a3 n3 c3) ∧ X.cell? ⟨A, 3, none⟩ = some (.slice a4 n4 c4) ∧ X.cell? ⟨A, 4, none⟩ = some (.int .i64 f)) 7 #[true, true, true, false, true, true, true, false, true, true, true, false, false, true, true, false, true, true, false, false] ⟨#[x0, .pointer (some ⟨A, 0, none⟩), .pointer (some ⟨R, 0, none⟩), .slice (some ⟨B1, 0, none⟩) 0 0, .pointer (some ⟨A, 0, none⟩), .slice a1 n1 c1, undef, .slice (some ⟨B2, 0, none⟩) 0 0, .pointer (some ⟨A, 1, none⟩), .slice a2 n2 c2, undef, .slice (some ⟨B3, 0, none⟩) 0 0, .pointer (some ⟨A, 2, none⟩), .slice a3 n3 c3, undef, undef, .pointer (some ⟨A, 3, none⟩), .slice a4 n4 c4, undef, .pointer (some ⟨A, 4, none⟩), .int .i64 f, undef], []⟩ W := by
  unfold ops16
  refine wpAnyH_ready (rs := [3, 12]) (by kernel_rfl) (by simp) ?_
  refine AllReadyH.cons (o := ⟨some 6, _, _, _, _, none⟩) rfl (fun K hK => ?_) (AllReadyH.cons (o := ⟨some 15, _, _, _, _, none⟩) rfl (fun K hK => ?_) (AllReadyH.nil))
  · obtain ⟨p1, q1, w1, hr, ho⟩ := HO.out.app1 (c := c1) HN.out.1 HL.out.1 (HM.out _ HO.out.b).1
    have HOn := hide ho
    refine step16 (by rfl) (.tmp 3) (.tmp 5) 22 22 (by rfl) (.slice (some ⟨B1, 0, none⟩) 0 0) (.slice a1 n1 c1) (by rfl) (by rfl) (.slice p1 n1 q1) w1 (hr _) ?_
    refine hK.out _ _ (HSA.out _ HOn.out.b) (fun _ => ?_)
    simp only [Act.put, List.setIfInBounds_toArray, List.set_cons_zero, List.set_cons_succ]
    clear hK K hr ho HO
    exact owd_0_3_4_8 HN HL HM HSA HSP HRJ hQ HOn
  · have HOn := hide HO.out.alloc4
    go_simp
    refine hK.out _ _ (HSA.out _ HOn.out.b) (fun _ => ?_)
    clear hK K HO
    exact owd_0_4_8_12 HN HL HM HSA HSP HRJ hQ HOn
set_option maxRecDepth 20000 in
set_option maxHeartbeats 4000000 in
theorem owd_0_4_12 {Q : Exit → Act → World → Prop} {w0 W : World} {a1 a2 a3 a4 : Option Addr} {n1 n2 n3 n4 c1 c2 c3 c4 A R : Nat} {f : Int} {x : Jb.J} {x0 : Value} {B1 : Nat} {B2 : Nat} {B4 : Nat} (HN : Hid (x.xs.length = n1 ∧ x.ws.length = n2 ∧ x.L.length = n3 ∧ x.M.length = n4)) (HL : Hid (n1 ≤ 1000 ∧ n2 ≤ 1000 ∧ n3 ≤ 1000 ∧ n4 ≤ 1000)) (HM : Hid (∀ X, Below w0.heap.size w0 X → ARow X a1 x.xs ∧ ARow X a2 x.ws ∧ FRow X a3 x.L ∧ FRow X a4 x.M)) (HSA : Hid (∀ X, Below w0.heap.size w0 X → X.cell? ⟨A, 0, none⟩ = some (.slice a1 n1 c1) ∧ X.cell? ⟨A, 1, none⟩ = some (.slice a2 n2 c2) ∧ X.cell? ⟨A, 2, none⟩ = some (.slice a3 n3 c3) ∧ X.cell? ⟨A, 3, none⟩ = some (.slice a4 n4 c4) ∧ X.cell? ⟨A, 4, none⟩ = some (.int .i64 f))) (HSP : Hid (∀ X, Below w0.heap.size w0 X → ∀ v1 v2 v3 v4 v5 : Value, (fun X => X.cell? ⟨A, 0, none⟩ = some (.slice a1 n1 c1) ∧ X.cell? ⟨A, 1, none⟩ = some (.slice a2 n2 c2) ∧ X.cell? ⟨A, 2, none⟩ = some (.slice a3 n3 c3) ∧ X.cell? ⟨A, 3, none⟩ = some (.slice a4 n4 c4) ∧ X.cell? ⟨A, 4, none⟩ = some (.int .i64 f)) (put5 X R v1 v2 v3 v4 v5))) (HRJ : Hid (∀ X, Below w0.heap.size w0 X → JW X R 25 (.slice none 0 0) (.slice none 0 0) (.slice none 0 0) (.slice none 0 0) (.int .i64 0))) (hQ : Hid (∀ B1 B2 B3 B4 p1 q1 p2 q2 p3 q3 p4 q4 X, OW4 w0 X (.slice p1 n1 q1) n1 (ints x.xs) (.slice p2 n2 q2) n2 (ints x.ws) (.slice p3 n3 q3) n3 (mce x.L) (.slice p4 n4 q4) n4 (mce x.M) → Q .normal ⟨#[x0, .pointer (some ⟨A, 0, none⟩), .pointer (some ⟨R, 0, none⟩), .slice (some ⟨B1, 0, none⟩) 0 0, .pointer (some ⟨A, 0, none⟩), .slice a1 n1 c1, .slice p1 n1 q1, .slice (some ⟨B2, 0, none⟩) 0 0, .pointer (some ⟨A, 1, none⟩), .slice a2 n2 c2, .slice p2 n2 q2, .slice (some ⟨B3, 0, none⟩) 0 0, .pointer (some ⟨A, 2, none⟩), .slice a3 n3 c3, .slice p3 n3 q3, .slice (some ⟨B4, 0, none⟩) 0 0, .pointer (some ⟨A, 3, none⟩), .slice a4 n4 c4, .slice p4 n4 q4, .pointer (some ⟨A, 4, none⟩), .int .i64 f, .agg #[.slice p1 n1 q1, .slice p2 n2 q2, .slice p3 n3 q3, .slice p4 n4 q4, .int .i64 f]], []⟩ (put5 X R (.slice p1 n1 q1) (.slice p2 n2 q2) (.slice p3 n3 q3) (.slice p4 n4 q4) (.int .i64 f)))) (HO : Hid (OW4 w0 W (.slice (some ⟨B1, 0, none⟩) 0 0) 0 [] (.slice (some ⟨B2, 0, none⟩) 0 0) 0 [] (.slice none 0 0) 0 [] (.slice (some ⟨B4, 0, none⟩) 0 0) 0 [])) :
    wpAnyH Try.prog .any ops16 (NoPanic Q) (fun X => X.cell? ⟨A, 0, none⟩ = some (.slice a1 n1 c1) ∧ X.cell? ⟨A, 1, none⟩ = some (.slice a2 n2 c2) ∧ X.cell? ⟨A, 2, none⟩ = some (.slice a3 n3 c3) ∧ X.cell? ⟨A, 3, none⟩ = some (.slice a4 n4 c4) ∧ X.cell? ⟨A, 4, none⟩ = some (.int .i64 f)) 7 #[true, true, true, false, true, true, true, false, false, true, true, false, true, true, true, false, true, true, false, false] ⟨#[x0, .pointer (some ⟨A, 0, none⟩), .pointer (some ⟨R, 0, none⟩), .slice (some ⟨B1, 0, none⟩) 0 0, .pointer (some ⟨A, 0, none⟩), .slice a1 n1 c1, undef, .slice (some ⟨B2, 0, none⟩) 0 0, .pointer (some ⟨A, 1, none⟩), .slice a2 n2 c2, undef, undef, .pointer (some ⟨A, 2, none⟩), .slice a3 n3 c3, undef, .slice (some ⟨B4, 0, none⟩) 0 0, .pointer (some ⟨A, 3, none⟩), .slice a4 n4 c4, undef, .pointer (some ⟨A, 4, none⟩), .int .i64 f, undef], []⟩ W := by
  unfold ops16
  refine wpAnyH_ready (rs := [3, 8]) (by kernel_rfl) (by simp) ?_
  refine AllReadyH.cons (o := ⟨some 6, _, _, _, _, none⟩) rfl (fun K hK => ?_) (AllReadyH.cons (o := ⟨some 11, _, _, _, _, none⟩) rfl (fun K hK => ?_) (AllReadyH.nil))
  · obtain ⟨p1, q1, w1, hr, ho⟩ := HO.out.app1 (c := c1) HN.out.1 HL.out.1 (HM.out _ HO.out.b).1
    have HOn := hide ho
    refine step16 (by rfl) (.tmp 3) (.tmp 5) 22 22 (by rfl) (.slice (some ⟨B1, 0, none⟩) 0 0) (.slice a1 n1 c1) (by rfl) (by rfl) (.slice p1 n1 q1) w1 (hr _) ?_
    refine hK.out _ _ (HSA.out _ HOn.out.b) (fun _ => ?_)
    simp only [Act.put, List.setIfInBounds_toArray, List.set_cons_zero, List.set_cons_succ]
    clear hK K hr ho HO
    exact owd_0_3_4_12 HN HL HM HSA HSP HRJ hQ HOn
  · have HOn := hide HO.out.alloc3
    go_simp
    refine hK.out _ _ (HSA.out _ HOn.out.b) (fun _ => ?_)
    clear hK K HO
    exact owd_0_4_8_12 HN HL HM HSA HSP HRJ hQ HOn
set_option maxRecDepth 20000 in
set_option maxHeartbeats 4000000 in
theorem owd_0_8_12 {Q : Exit → Act → World → Prop} {w0 W : World} {a1 a2 a3 a4 : Option Addr} {n1 n2 n3 n4 c1 c2 c3 c4 A R : Nat} {f : Int} {x : Jb.J} {x0 : Value} {B1 : Nat} {B3 : Nat} {B4 : Nat} (HN : Hid (x.xs.length = n1 ∧ x.ws.length = n2 ∧ x.L.length = n3 ∧ x.M.length = n4)) (HL : Hid (n1 ≤ 1000 ∧ n2 ≤ 1000 ∧ n3 ≤ 1000 ∧ n4 ≤ 1000)) (HM : Hid (∀ X, Below w0.heap.size w0 X → ARow X a1 x.xs ∧ ARow X a2 x.ws ∧ FRow X a3 x.L ∧ FRow X a4 x.M)) (HSA : Hid (∀ X, Below w0.heap.size w0 X → X.cell? ⟨A, 0, none⟩ = some (.slice a1 n1 c1) ∧ X.cell? ⟨A, 1, none⟩ = some (.slice a2 n2 c2) ∧ X.cell? ⟨A, 2, none⟩ = some (.slice a3 n3 c3) ∧ X.cell? ⟨A, 3, none⟩ = some (.slice a4 n4 c4) ∧ X.cell? ⟨A, 4, none⟩ = some (.int .i64 f))) (HSP : Hid (∀ X, Below w0.heap.size w0 X → ∀ v1 v2 v3 v4 v5 : Value, (fun X => X.cell? ⟨A, 0, none⟩ = some (.slice a1 n1 c1) ∧ X.cell? ⟨A, 1, none⟩ = some (.slice a2 n2 c2) ∧ X.cell? ⟨A, 2, none⟩ = some (.slice a3 n3 c3) ∧ X.cell? ⟨A, 3, none⟩ = some (.slice a4 n4 c4) ∧ X.cell? ⟨A, 4, none⟩ = some (.int .i64 f)) (put5 X R v1 v2 v3 v4 v5))) (HRJ : Hid (∀ X, Below w0.heap.size w0 X → JW X R 25 (.slice none 0 0) (.slice none 0 0) (.slice none 0 0) (.slice none 0 0) (.int .i64 0))) (hQ : Hid (∀ B1 B2 B3 B4 p1 q1 p2 q2 p3 q3 p4 q4 X, OW4 w0 X (.slice p1 n1 q1) n1 (ints x.xs) (.slice p2 n2 q2) n2 (ints x.ws) (.slice p3 n3 q3) n3 (mce x.L) (.slice p4 n4 q4) n4 (mce x.M) → Q .normal ⟨#[x0, .pointer (some ⟨A, 0, none⟩), .pointer (some ⟨R, 0, none⟩), .slice (some ⟨B1, 0, none⟩) 0 0, .pointer (some ⟨A, 0, none⟩), .slice a1 n1 c1, .slice p1 n1 q1, .slice (some ⟨B2, 0, none⟩) 0 0, .pointer (some ⟨A, 1, none⟩), .slice a2 n2 c2, .slice p2 n2 q2, .slice (some ⟨B3, 0, none⟩) 0 0, .pointer (some ⟨A, 2, none⟩), .slice a3 n3 c3, .slice p3 n3 q3, .slice (some ⟨B4, 0, none⟩) 0 0, .pointer (some ⟨A, 3, none⟩), .slice a4 n4 c4, .slice p4 n4 q4, .pointer (some ⟨A, 4, none⟩), .int .i64 f, .agg #[.slice p1 n1 q1, .slice p2 n2 q2, .slice p3 n3 q3, .slice p4 n4 q4, .int .i64 f]], []⟩ (put5 X R (.slice p1 n1 q1) (.slice p2 n2 q2) (.slice p3 n3 q3) (.slice p4 n4 q4) (.int .i64 f)))) (HO : Hid (OW4 w0 W (.slice (some ⟨B1, 0, none⟩) 0 0) 0 [] (.slice none 0 0) 0 [] (.slice (some ⟨B3, 0, none⟩) 0 0) 0 [] (.slice (some ⟨B4, 0, none⟩) 0 0) 0 [])) :
    wpAnyH Try.prog .any ops16 (NoPanic Q) (fun X => X.cell? ⟨A, 0, none⟩ = some (.slice a1 n1 c1) ∧ X.cell? ⟨A, 1, none⟩ = some (.slice a2 n2 c2) ∧ X.cell? ⟨A, 2, none⟩ = some (.slice a3 n3 c3) ∧ X.cell? ⟨A, 3, none⟩ = some (.slice a4 n4 c4) ∧ X.cell? ⟨A, 4, none⟩ = some (.int .i64 f)) 7 #[true, true, true, false, false, true, true, false, true, true, true, false, true, true, true, false, true, true, false, false] ⟨#[x0, .pointer (some ⟨A, 0, none⟩), .pointer (some ⟨R, 0, none⟩), .slice (some ⟨B1, 0, none⟩) 0 0, .pointer (some ⟨A, 0, none⟩), .slice a1 n1 c1, undef, undef, .pointer (some ⟨A, 1, none⟩), .slice a2 n2 c2, undef, .slice (some ⟨B3, 0, none⟩) 0 0, .pointer (some ⟨A, 2, none⟩), .slice a3 n3 c3, undef, .slice (some ⟨B4, 0, none⟩) 0 0, .pointer (some ⟨A, 3, none⟩), .slice a4 n4 c4, undef, .pointer (some ⟨A, 4, none⟩), .int .i64 f, undef], []⟩ W := by
  unfold ops16
  refine wpAnyH_ready (rs := [3, 4]) (by kernel_rfl) (by simp) ?_
  refine AllReadyH.cons (o := ⟨some 6, _, _, _, _, none⟩) rfl (fun K hK => ?_) (AllReadyH.cons (o := ⟨some 7, _, _, _, _, none⟩) rfl (fun K hK => ?_) (AllReadyH.nil))
  · obtain ⟨p1, q1, w1, hr, ho⟩ := HO.out.app1 (c := c1) HN.out.1 HL.out.1 (HM.out _ HO.out.b).1
    have HOn := hide ho
    refine step16 (by rfl) (.tmp 3) (.tmp 5) 22 22 (by rfl) (.slice (some ⟨B1, 0, none⟩) 0 0) (.slice a1 n1 c1) (by rfl) (by rfl) (.slice p1 n1 q1) w1 (hr _) ?_
    refine hK.out _ _ (HSA.out _ HOn.out.b) (fun _ => ?_)
    simp only [Act.put, List.setIfInBounds_toArray, List.set_cons_zero, List.set_cons_succ]
    clear hK K hr ho HO
    exact owd_0_3_8_12 HN HL HM HSA HSP HRJ hQ HOn
  · have HOn := hide HO.out.alloc2
    go_simp
    refine hK.out _ _ (HSA.out _ HOn.out.b) (fun _ => ?_)
    clear hK K HO
    exact owd_0_4_8_12 HN HL HM HSA HSP HRJ hQ HOn
set_option maxRecDepth 20000 in
set_option maxHeartbeats 4000000 in
theorem owd_4_8_12 {Q : Exit → Act → World → Prop} {w0 W : World} {a1 a2 a3 a4 : Option Addr} {n1 n2 n3 n4 c1 c2 c3 c4 A R : Nat} {f : Int} {x : Jb.J} {x0 : Value} {B2 : Nat} {B3 : Nat} {B4 : Nat} (HN : Hid (x.xs.length = n1 ∧ x.ws.length = n2 ∧ x.L.length = n3 ∧ x.M.length = n4)) (HL : Hid (n1 ≤ 1000 ∧ n2 ≤ 1000 ∧ n3 ≤ 1000 ∧ n4 ≤ 1000)) (HM : Hid (∀ X, Below w0.heap.size w0 X → ARow X a1 x.xs ∧ ARow X a2 x.ws ∧ FRow X a3 x.L ∧ FRow X a4 x.M)) (HSA : Hid (∀ X, Below w0.heap.size w0 X → X.cell? ⟨A, 0, none⟩ = some (.slice a1 n1 c1) ∧ X.cell? ⟨A, 1, none⟩ = some (.slice a2 n2 c2) ∧ X.cell? ⟨A, 2, none⟩ = some (.slice a3 n3 c3) ∧ X.cell? ⟨A, 3, none⟩ = some (.slice a4 n4 c4) ∧ X.cell? ⟨A, 4, none⟩ = some (.int .i64 f))) (HSP : Hid (∀ X, Below w0.heap.size w0 X → ∀ v1 v2 v3 v4 v5 : Value, (fun X => X.cell? ⟨A, 0, none⟩ = some (.slice a1 n1 c1) ∧ X.cell? ⟨A, 1, none⟩ = some (.slice a2 n2 c2) ∧ X.cell? ⟨A, 2, none⟩ = some (.slice a3 n3 c3) ∧ X.cell? ⟨A, 3, none⟩ = some (.slice a4 n4 c4) ∧ X.cell? ⟨A, 4, none⟩ = some (.int .i64 f)) (put5 X R v1 v2 v3 v4 v5))) (HRJ : Hid (∀ X, Below w0.heap.size w0 X → JW X R 25 (.slice none 0 0) (.slice none 0 0) (.slice none 0 0) (.slice none 0 0) (.int .i64 0))) (hQ : Hid (∀ B1 B2 B3 B4 p1 q1 p2 q2 p3 q3 p4 q4 X, OW4 w0 X (.slice p1 n1 q1) n1 (ints x.xs) (.slice p2 n2 q2) n2 (ints x.ws) (.slice p3 n3 q3) n3 (mce x.L) (.slice p4 n4 q4) n4 (mce x.M) → Q .normal ⟨#[x0, .pointer (some ⟨A, 0, none⟩), .pointer (some ⟨R, 0, none⟩), .slice (some ⟨B1, 0, none⟩) 0 0, .pointer (some ⟨A, 0, none⟩), .slice a1 n1 c1, .slice p1 n1 q1, .slice (some ⟨B2, 0, none⟩) 0 0, .pointer (some ⟨A, 1, none⟩), .slice a2 n2 c2, .slice p2 n2 q2, .slice (some ⟨B3, 0, none⟩) 0 0, .pointer (some ⟨A, 2, none⟩), .slice a3 n3 c3, .slice p3 n3 q3, .slice (some ⟨B4, 0, none⟩) 0 0, .pointer (some ⟨A, 3, none⟩), .slice a4 n4 c4, .slice p4 n4 q4, .pointer (some ⟨A, 4, none⟩), .int .i64 f, .agg #[.slice p1 n1 q1, .slice p2 n2 q2, .slice p3 n3 q3, .slice p4 n4 q4, .int .i64 f]], []⟩ (put5 X R (.slice p1 n1 q1) (.slice p2 n2 q2) (.slice p3 n3 q3) (.slice p4 n4 q4) (.int .i64 f)))) (HO : Hid (OW4 w0 W (.slice none 0 0) 0 [] (.slice (some ⟨B2, 0, none⟩) 0 0) 0 [] (.slice (some ⟨B3, 0, none⟩) 0 0) 0 [] (.slice (some ⟨B4, 0, none⟩) 0 0) 0 [])) :
    wpAnyH Try.prog .any ops16 (NoPanic Q) (fun X => X.cell? ⟨A, 0, none⟩ = some (.slice a1 n1 c1) ∧ X.cell? ⟨A, 1, none⟩ = some (.slice a2 n2 c2) ∧ X.cell? ⟨A, 2, none⟩ = some (.slice a3 n3 c3) ∧ X.cell? ⟨A, 3, none⟩ = some (.slice a4 n4 c4) ∧ X.cell? ⟨A, 4, none⟩ = some (.int .i64 f)) 7 #[false, true, true, false, true, true, true, false, true, true, true, false, true, true, true, false, true, true, false, false] ⟨#[x0, .pointer (some ⟨A, 0, none⟩), .pointer (some ⟨R, 0, none⟩), undef, .pointer (some ⟨A, 0, none⟩), .slice a1 n1 c1, undef, .slice (some ⟨B2, 0, none⟩) 0 0, .pointer (some ⟨A, 1, none⟩), .slice a2 n2 c2, undef, .slice (some ⟨B3, 0, none⟩) 0 0, .pointer (some ⟨A, 2, none⟩), .slice a3 n3 c3, undef, .slice (some ⟨B4, 0, none⟩) 0 0, .pointer (some ⟨A, 3, none⟩), .slice a4 n4 c4, undef, .pointer (some ⟨A, 4, none⟩), .int .i64 f, undef], []⟩ W := by
  unfold ops16
  refine wpAnyH_ready (rs := [0]) (by kernel_rfl) (by simp) ?_
  refine AllReadyH.cons (o := ⟨some 3, _, _, _, _, none⟩) rfl (fun K hK => ?_) (AllReadyH.nil)
  · have HOn := hide HO.out.alloc1
    go_simp
    refine hK.out _ _ (HSA.out _ HOn.out.b) (fun _ => ?_)
    clear hK K HO
    exact owd_0_4_8_12 HN HL HM HSA HSP HRJ hQ HOn
set_option maxRecDepth 20000 in
set_option maxHeartbeats 4000000 in
theorem owd_0_3 {Q : Exit → Act → World → Prop} {w0 W : World} {a1 a2 a3 a4 : Option Addr} {n1 n2 n3 n4 c1 c2 c3 c4 A R : Nat} {f : Int} {x : Jb.J} {x0 : Value} {B1 : Nat} {p1 : Option Addr} {q1 : Nat} (HN : Hid (x.xs.length = n1 ∧ x.ws.length = n2 ∧ x.L.length = n3 ∧ x.M.length = n4)) (HL : Hid (n1 ≤ 1000 ∧ n2 ≤ 1000 ∧ n3 ≤ 1000 ∧ n4 ≤ 1000)) (HM : Hid (∀ X, Below w0.heap.size w0 X → ARow X a1 x.xs ∧ ARow X a2 x.ws ∧ FRow X a3 x.L ∧ FRow X a4 x.M)) (HSA : Hid (∀ X, Below w0.heap.size w0 X → X.cell? ⟨A, 0, none⟩ = some (.slice a1 n1 c1) ∧ X.cell? ⟨A, 1, none⟩ = some (.slice a2 n2 c2) ∧ X.cell? ⟨A, 2, none⟩ = some (.slice a3 n3 c3) ∧ X.cell? ⟨A, 3, none⟩ = some (.slice a4 n4 c4) ∧ X.cell? ⟨A, 4, none⟩ = some (.int .i64 f))) (HSP : Hid (∀ X, Below w0.heap.size w0 X → ∀ v1 v2 v3 v4 v5 : Value, (fun X => X.cell? ⟨A, 0, none⟩ = some (.slice a1 n1 c1) ∧ X.cell? ⟨A, 1, none⟩ = some (.slice a2 n2 c2) ∧ X.cell? ⟨A, 2, none⟩ = some (.slice a3 n3 c3) ∧ X.cell? ⟨A, 3, none⟩ = some (.slice a4 n4 c4) ∧ X.cell? ⟨A, 4, none⟩ = some (.int .i64 f)) (put5 X R v1 v2 v3 v4 v5))) (HRJ : Hid (∀ X, Below w0.heap.size w0 X → JW X R 25 (.slice none 0 0) (.slice none 0 0) (.slice none 0 0) (.slice none 0 0) (.int .i64 0))) (hQ : Hid (∀ B1 B2 B3 B4 p1 q1 p2 q2 p3 q3 p4 q4 X, OW4 w0 X (.slice p1 n1 q1) n1 (ints x.xs) (.slice p2 n2 q2) n2 (ints x.ws) (.slice p3 n3 q3) n3 (mce x.L) (.slice p4 n4 q4) n4 (mce x.M) → Q .normal ⟨#[x0, .pointer (some ⟨A, 0, none⟩), .pointer (some ⟨R, 0, none⟩), .slice (some ⟨B1, 0, none⟩) 0 0, .pointer (some ⟨A, 0, none⟩), .slice a1 n1 c1, .slice p1 n1 q1, .slice (some ⟨B2, 0, none⟩) 0 0, .pointer (some ⟨A, 1, none⟩), .slice a2 n2 c2, .slice p2 n2 q2, .slice (some ⟨B3, 0, none⟩) 0 0, .pointer (some ⟨A, 2, none⟩), .slice a3 n3 c3, .slice p3 n3 q3, .slice (some ⟨B4, 0, none⟩) 0 0, .pointer (some ⟨A, 3, none⟩), .slice a4 n4 c4, .slice p4 n4 q4, .pointer (some ⟨A, 4, none⟩), .int .i64 f, .agg #[.slice p1 n1 q1, .slice p2 n2 q2, .slice p3 n3 q3, .slice p4 n4 q4, .int .i64 f]], []⟩ (put5 X R (.slice p1 n1 q1) (.slice p2 n2 q2) (.slice p3 n3 q3) (.slice p4 n4 q4) (.int .i64 f)))) (HO : Hid (OW4 w0 W (.slice p1 n1 q1) n1 (ints x.xs) (.slice none 0 0) 0 [] (.slice none 0 0) 0 [] (.slice none 0 0) 0 [])) :
    wpAnyH Try.prog .any ops16 (NoPanic Q) (fun X => X.cell? ⟨A, 0, none⟩ = some (.slice a1 n1 c1) ∧ X.cell? ⟨A, 1, none⟩ = some (.slice a2 n2 c2) ∧ X.cell? ⟨A, 2, none⟩ = some (.slice a3 n3 c3) ∧ X.cell? ⟨A, 3, none⟩ = some (.slice a4 n4 c4) ∧ X.cell? ⟨A, 4, none⟩ = some (.int .i64 f)) 8 #[true, true, true, true, false, true, true, false, false, true, true, false, false, true, true, false, true, true, false, false] ⟨#[x0, .pointer (some ⟨A, 0, none⟩), .pointer (some ⟨R, 0, none⟩), .slice (some ⟨B1, 0, none⟩) 0 0, .pointer (some ⟨A, 0, none⟩), .slice a1 n1 c1, .slice p1 n1 q1, undef, .pointer (some ⟨A, 1, none⟩), .slice a2 n2 c2, undef, undef, .pointer (some ⟨A, 2, none⟩), .slice a3 n3 c3, undef, undef, .pointer (some ⟨A, 3, none⟩), .slice a4 n4 c4, undef, .pointer (some ⟨A, 4, none⟩), .int .i64 f, undef], []⟩ W := by
  unfold ops16
  refine wpAnyH_ready (rs := [4, 8, 12]) (by kernel_rfl) (by simp) ?_
  refine AllReadyH.cons (o := ⟨some 7, _, _, _, _, none⟩) rfl (fun K hK => ?_) (AllReadyH.cons (o := ⟨some 11, _, _, _, _, none⟩) rfl (fun K hK => ?_) (AllReadyH.cons (o := ⟨some 15, _, _, _, _, none⟩) rfl (fun K hK => ?_) (AllReadyH.nil)))
  · have HOn := hide HO.out.alloc2
    go_simp
    refine hK.out _ _ (HSA.out _ HOn.out.b) (fun _ => ?_)
    clear hK K HO
    exact owd_0_3_4 HN HL HM HSA HSP HRJ hQ HOn
  · have HOn := hide HO.out.alloc3
    go_simp
    refine hK.out _ _ (HSA.out _ HOn.out.b) (fun _ => ?_)
    clear hK K HO
    exact owd_0_3_8 HN HL HM HSA HSP HRJ hQ HOn
  · have HOn := hide HO.out.alloc4
    go_simp
    refine hK.out _ _ (HSA.out _ HOn.out.b) (fun _ => ?_)
    clear hK K HO
    exact owd_0_3_12 HN HL HM HSA HSP HRJ hQ HOn
set_option maxRecDepth 20000 in
set_option maxHeartbeats 4000000 in
theorem owd_0_4 {Q : Exit → Act → World → Prop} {w0 W : World} {a1 a2 a3 a4 : Option Addr} {n1 n2 n3 n4 c1 c2 c3 c4 A R : Nat} {f : Int} {x : Jb.J} {x0 : Value} {B1 : Nat} {B2 : Nat} (HN : Hid (x.xs.length = n1 ∧ x.ws.length = n2 ∧ x.L.length = n3 ∧ x.M.length = n4)) (HL : Hid (n1 ≤ 1000 ∧ n2 ≤ 1000 ∧ n3 ≤ 1000 ∧ n4 ≤ 1000)) (HM : Hid (∀ X, Below w0.heap.size w0 X → ARow X a1 x.xs ∧ ARow X a2 x.ws ∧ FRow X a3 x.L ∧ FRow X a4 x.M)) (HSA : Hid (∀ X, Below w0.heap.size w0 X → X.cell? ⟨A, 0, none⟩ = some (.slice a1 n1 c1) ∧ X.cell? ⟨A, 1, none⟩ = some (.slice a2 n2 c2) ∧ X.cell? ⟨A, 2, none⟩ = some (.slice a3 n3 c3) ∧ X.cell? ⟨A, 3, none⟩ = some (.slice a4 n4 c4) ∧ X.cell? ⟨A, 4, none⟩ = some (.int .i64 f))) (HSP : Hid (∀ X, Below w0.heap.size w0 X → ∀ v1 v2 v3 v4 v5 : Value, (fun X => X.cell? ⟨A, 0, none⟩ = some (.slice a1 n1 c1) ∧ X.cell? ⟨A, 1, none⟩ = some (.slice a2 n2 c2) ∧ X.cell? ⟨A, 2, none⟩ = some (.slice a3 n3 c3) ∧ X.cell? ⟨A, 3, none⟩ = some (.slice a4 n4 c4) ∧ X.cell? ⟨A, 4, none⟩ = some (.int .i64 f)) (put5 X R v1 v2 v3 v4 v5))) (HRJ : Hid (∀ X, Below w0.heap.size w0 X → JW X R 25 (.slice none 0 0) (.slice none 0 0) (.slice none 0 0) (.slice none 0 0) (.int .i64 0))) (hQ : Hid (∀ B1 B2 B3 B4 p1 q1 p2 q2 p3 q3 p4 q4 X, OW4 w0 X (.slice p1 n1 q1) n1 (ints x.xs) (.slice p2 n2 q2) n2 (ints x.ws) (.slice p3 n3 q3) n3 (mce x.L) (.slice p4 n4 q4) n4 (mce x.M) → Q .normal ⟨#[x0, .pointer (some ⟨A, 0, none⟩), .pointer (some ⟨R, 0, none⟩), .slice (some ⟨B1, 0, none⟩) 0 0, .pointer (some ⟨A, 0, none⟩), .slice a1 n1 c1, .slice p1 n1 q1, .slice (some ⟨B2, 0, none⟩) 0 0, .pointer (some ⟨A, 1, none⟩), .slice a2 n2 c2, .slice p2 n2 q2, .slice (some ⟨B3, 0, none⟩) 0 0, .pointer (some ⟨A, 2, none⟩), .slice a3 n3 c3, .slice p3 n3 q3, .slice (some ⟨B4, 0, none⟩) 0 0, .pointer (some ⟨A, 3, none⟩), .slice a4 n4 c4, .slice p4 n4 q4, .pointer (some ⟨A, 4, none⟩), .int .i64 f, .agg #[.slice p1 n1 q1, .slice p2 n2 q2, .slice p3 n3 q3, .slice p4 n4 q4, .int .i64 f]], []⟩ (put5 X R (.slice p1 n1 q1) (.slice p2 n2 q2) (.slice p3 n3 q3) (.slice p4 n4 q4) (.int .i64 f)))) (HO : Hid (OW4 w0 W (.slice (some ⟨B1, 0, none⟩) 0 0) 0 [] (.slice (some ⟨B2, 0, none⟩) 0 0) 0 [] (.slice none 0 0) 0 [] (.slice none 0 0) 0 [])) :
    wpAnyH Try.prog .any ops16 (NoPanic Q) (fun X => X.cell? ⟨A, 0, none⟩ = some (.slice a1 n1 c1) ∧ X.cell? ⟨A, 1, none⟩ = some (.slice a2 n2 c2) ∧ X.cell? ⟨A, 2, none⟩ = some (.slice a3 n3 c3) ∧ X.cell? ⟨A, 3, none⟩ = some (.slice a4 n4 c4) ∧ X.cell? ⟨A, 4, none⟩ = some (.int .i64 f)) 8 #[true, true, true, false, true, true, true, false, false, true, true, false, false, true, true, false, true, true, false, false] ⟨#[x0, .pointer (some ⟨A, 0, none⟩), .pointer (some ⟨R, 0, none⟩), .slice (some ⟨B1, 0, none⟩) 0 0, .pointer (some ⟨A, 0, none⟩), .slice a1 n1 c1, undef, .slice (some ⟨B2, 0, none⟩) 0 0, .pointer (some ⟨A, 1, none⟩), .slice a2 n2 c2, undef, undef, .pointer (some ⟨A, 2, none⟩), .slice a3 n3 c3, undef, undef, .pointer (some ⟨A, 3, none⟩), .slice a4 n4 c4, undef, .pointer (some ⟨A, 4, none⟩), .int .i64 f, undef], []⟩ W := by
  unfold ops16
  refine wpAnyH_ready (rs := [3, 8, 12]) (by kernel_rfl) (by simp) ?_
  refine AllReadyH.cons (o := ⟨some 6, _, _, _, _, none⟩) rfl (fun K hK => ?_) (AllReadyH.cons (o := ⟨some 11, _, _, _, _, none⟩) rfl (fun K hK => ?_) (AllReadyH.cons (o := ⟨some 15, _, _, _, _, none⟩) rfl (fun K hK => ?_) (AllReadyH.nil)))
  · obtain ⟨p1, q1, w1, hr, ho⟩ := HO.out.app1 (c := c1) HN.out.1 HL.out.1 (HM.out _ HO.out.b).1
    have HOn := hide ho
    refine step16 (by rfl) (.tmp 3) (.tmp 5) 22 22 (by rfl) (.slice (some ⟨B1, 0, none⟩) 0 0) (.slice a1 n1 c1) (by rfl) (by rfl) (.slice p1 n1 q1) w1 (hr _) ?_
    refine hK.out _ _ (HSA.out _ HOn.out.b) (fun _ => ?_)
    simp only [Act.put, List.setIfInBounds_toArray, List.set_cons_zero, List.set_cons_succ]
    clear hK K hr ho HO
    exact owd_0_3_4 HN HL HM HSA HSP HRJ hQ HOn
  · have HOn := hide HO.out.alloc3
    go_simp
    refine hK.out _ _ (HSA.out _ HOn.out.b) (fun _ => ?_)
    clear hK K HO
    exact owd_0_4_8 HN HL HM HSA HSP HRJ hQ HOn
  · have HOn := hide HO.out.alloc4
    go_simp
    refine hK.out _ _ (HSA.out _ HOn.out.b) (fun _ => ?_)
    clear hK K HO
    exact owd_0_4_12 HN HL HM HSA HSP HRJ hQ HOn
set_option maxRecDepth 20000 in
set_option maxHeartbeats 4000000 in
theorem owd_0_8 {Q : Exit → Act → World → Prop} {w0 W : World} {a1 a2 a3 a4 : Option Addr} {n1 n2 n3 n4 c1 c2 c3 c4 A R : Nat} {f : Int} {x : Jb.J} {x0 : Value} {B1 : Nat} {B3 : Nat} (HN : Hid (x.xs.length = n1 ∧ x.ws.length = n2 ∧ x.L.length = n3 ∧ x.M.length = n4)) (HL : Hid (n1 ≤ 1000 ∧ n2 ≤ 1000 ∧ n3 ≤ 1000 ∧ n4 ≤ 1000)) (HM : Hid (∀ X, Below w0.heap.size w0 X → ARow X a1 x.xs ∧ ARow X a2 x.ws ∧ FRow X a3 x.L ∧ FRow X a4 x.M)) (HSA : Hid (∀ X, Below w0.heap.size w0 X → X.cell? ⟨A, 0, none⟩ = some (.slice a1 n1 c1) ∧ X.cell? ⟨A, 1, none⟩ = some (.slice a2 n2 c2) ∧ X.cell? ⟨A, 2, none⟩ = some (.slice a3 n3 c3) ∧ X.cell? ⟨A, 3, none⟩ = some (.slice a4 n4 c4) ∧ X.cell? ⟨A, 4, none⟩ = some (.int .i64 f))) (HSP : Hid (∀ X, Below w0.heap.size w0 X → ∀ v1 v2 v3 v4 v5 : Value, (fun X => X.cell? ⟨A, 0, none⟩ = some (.slice a1 n1 c1) ∧ X.cell? ⟨A, 1, none⟩ = some (.slice a2 n2 c2) ∧ X.cell? ⟨A, 2, none⟩ = some (.slice a3 n3 c3) ∧ X.cell? ⟨A, 3, none⟩ = some (.slice a4 n4 c4) ∧ X.cell? ⟨A, 4, none⟩ = some (.int .i64 f)) (put5 X R v1 v2 v3 v4 v5))) (HRJ : Hid (∀ X, Below w0.heap.size w0 X → JW X R 25 (.slice none 0 0) (.slice none 0 0) (.slice none 0 0) (.slice none 0 0) (.int .i64 0))) (hQ : Hid (∀ B1 B2 B3 B4 p1 q1 p2 q2 p3 q3 p4 q4 X, OW4 w0 X (.slice p1 n1 q1) n1 (ints x.xs) (.slice p2 n2 q2) n2 (ints x.ws) (.slice p3 n3 q3) n3 (mce x.L) (.slice p4 n4 q4) n4 (mce x.M) → Q .normal ⟨#[x0, .pointer (some ⟨A, 0, none⟩), .pointer (some ⟨R, 0, none⟩), .slice (some ⟨B1, 0, none⟩) 0 0, .pointer (some ⟨A, 0, none⟩), .slice a1 n1 c1, .slice p1 n1 q1, .slice (some ⟨B2, 0, none⟩) 0 0, .pointer (some ⟨A, 1, none⟩), .slice a2 n2 c2, .slice p2 n2 q2, .slice (some ⟨B3, 0, none⟩) 0 0, .pointer (some ⟨A, 2, none⟩), .slice a3 n3 c3, .slice p3 n3 q3, .slice (some ⟨B4, 0, none⟩) 0 0, .pointer (some ⟨A, 3, none⟩), .slice a4 n4 c4, .slice p4 n4 q4, .pointer (some ⟨A, 4, none⟩), .int .i64 f, .agg #[.slice p1 n1 q1, .slice p2 n2 q2, .slice p3 n3 q3, .slice p4 n4 q4, .int .i64 f]], []⟩ (put5 X R (.slice p1 n1 q1) (.slice p2 n2 q2) (.slice p3 n3 q3) (.slice p4 n4 q4) (.int .i64 f)))) (HO : Hid (OW4 w0 W (.slice (some ⟨B1, 0, none⟩) 0 0) 0 [] (.slice none 0 0) 0 [] (.slice (some ⟨B3, 0, none⟩) 0 0) 0 [] (.slice none 0 0) 0 [])) :
    wpAnyH Try.prog .any ops16 (NoPanic Q) (fun X => X.cell? ⟨A, 0, none⟩ = some (.slice a1 n1 c1) ∧ X.cell? ⟨A, 1, none⟩ = some (.slice a2 n2 c2) ∧ X.cell? ⟨A, 2, none⟩ = some (.slice a3 n3 c3) ∧ X.cell? ⟨A, 3, none⟩ = some (.slice a4 n4 c4) ∧ X.cell? ⟨A, 4, none⟩ = some (.int .i64 f)) 8 #[true, true, true, false, false, true, true, false, true, true, true, false, false, true, true, false, true, true, false, false] ⟨#[x0, .pointer (some ⟨A, 0, none⟩), .pointer (some ⟨R, 0, none⟩), .slice (some ⟨B1, 0, none⟩) 0 0, .pointer (some ⟨A, 0, none⟩), .slice a1 n1 c1, undef, undef, .pointer (some ⟨A, 1, none⟩), .slice a2 n2 c2, undef, .slice (some ⟨B3, 0, none⟩) 0 0, .pointer (some ⟨A, 2, none⟩), .slice a3 n3 c3, undef, undef, .pointer (some ⟨A, 3, none⟩), .slice a4 n4 c4, undef, .pointer (some ⟨A, 4, none⟩), .int .i64 f, undef], []⟩ W := by
  unfold ops16
  refine wpAnyH_ready (rs := [3, 4, 12]) (by kernel_rfl) (by simp) ?_
  refine AllReadyH.cons (o := ⟨some 6, _, _, _, _, none⟩) rfl (fun K hK => ?_) (AllReadyH.cons (o := ⟨some 7, _, _, _, _, none⟩) rfl (fun K hK => ?_) (AllReadyH.cons (o := ⟨some 15, _, _, _, _, none⟩) rfl (fun K hK => ?_) (AllReadyH.nil)))
  · obtain ⟨p1, q1, w1, hr, ho⟩ := HO.out.app1 (c := c1) HN.out.1 HL.out.1 (HM.out _ HO.out.b).1
    have HOn := hide ho
    refine step16 (by rfl) (.tmp 3) (.tmp 5) 22 22 (by rfl) (.slice (some ⟨B1, 0, none⟩) 0 0) (.slice a1 n1 c1) (by rfl) (by rfl) (.slice p1 n1 q1) w1 (hr _) ?_
    refine hK.out _ _ (HSA.out _ HOn.out.b) (fun _ => ?_)
    simp only [Act.put, List.setIfInBounds_toArray, List.set_cons_zero, List.set_cons_succ]
    clear hK K hr ho HO
    exact owd_0_3_8 HN HL HM HSA HSP HRJ hQ HOn
  · have HOn := hide HO.out.alloc2
    go_simp
    refine hK.out _ _ (HSA.out _ HOn.out.b) (fun _ => ?_)
    clear hK K HO
    exact owd_0_4_8 HN HL HM HSA HSP HRJ hQ HOn
  · have HOn := hide HO.out.alloc4
    go_simp
    refine hK.out _ _ (HSA.out _ HOn.out.b) (fun _ => ?_)
    clear hK K HO
    exact owd_0_8_12 HN HL HM HSA HSP HRJ hQ HOn
set_option maxRecDepth 20000 in
set_option maxHeartbeats 4000000 in
theorem owd_0_12 {Q : Exit → Act → World → Prop} {w0 W : World} {a1 a2 a3 a4 : Option Addr} {n1 n2 n3 n4 c1 c2 c3 c4 A R : Nat} {f : Int} {x : Jb.J} {x0 : Value} {B1 : Nat} {B4 : Nat} (HN : Hid (x.xs.length = n1 ∧ x.ws.length = n2 ∧ x.L.length = n3 ∧ x.M.length = n4)) (HL : Hid (n1 ≤ 1000 ∧ n2 ≤ 1000 ∧ n3 ≤ 1000 ∧ n4 ≤ 1000)) (HM : Hid (∀ X, Below w0.heap.size w0 X → ARow X a1 x.xs ∧ ARow X a2 x.ws ∧ FRow X a3 x.L ∧ FRow X a4 x.M)) (HSA : Hid (∀ X, Below w0.heap.size w0 X → X.cell? ⟨A, 0, none⟩ = some (.slice a1 n1 c1) ∧ X.cell? ⟨A, 1, none⟩ = some (.slice a2 n2 c2) ∧ X.cell? ⟨A, 2, none⟩ = some (.slice a3 n3 c3) ∧ X.cell? ⟨A, 3, none⟩ = some (.slice a4 n4 c4) ∧ X.cell? ⟨A, 4, none⟩ = some (.int .i64 f))) (HSP : Hid (∀ X, Below w0.heap.size w0 X → ∀ v1 v2 v3 v4 v5 : Value, (fun X => X.cell? ⟨A, 0, none⟩ = some (.slice a1 n1 c1) ∧ X.cell? ⟨A, 1, none⟩ = some (.slice a2 n2 c2) ∧ X.cell? ⟨A, 2, none⟩ = some (.slice a3 n3 c3) ∧ X.cell? ⟨A, 3, none⟩ = some (.slice a4 n4 c4) ∧ X.cell? ⟨A, 4, none⟩ = some (.int .i64 f)) (put5 X R v1 v2 v3 v4 v5))) (HRJ : Hid (∀ X, Below w0.heap.size w0 X → JW X R 25 (.slice none 0 0) (.slice none 0 0) (.slice none 0 0) (.slice none 0 0) (.int .i64 0))) (hQ : Hid (∀ B1 B2 B3 B4 p1 q1 p2 q2 p3 q3 p4 q4 X, OW4 w0 X (.slice p1 n1 q1) n1 (ints x.xs) (.slice p2 n2 q2) n2 (ints x.ws) (.slice p3 n3 q3) n3 (mce x.L) (.slice p4 n4 q4) n4 (mce x.M) → Q .normal ⟨#[x0, .pointer (some ⟨A, 0, none⟩), .pointer (some ⟨R, 0, none⟩), .slice (some ⟨B1, 0, none⟩) 0 0, .pointer (some ⟨A, 0, none⟩), .slice a1 n1 c1, .slice p1 n1 q1, .slice (some ⟨B2, 0, none⟩) 0 0, .pointer (some ⟨A, 1, none⟩), .slice a2 n2 c2, .slice p2 n2 q2, .slice (some ⟨B3, 0, none⟩) 0 0, .pointer (some ⟨A, 2, none⟩), .slice a3 n3 c3, .slice p3 n3 q3, .slice (some ⟨B4, 0, none⟩) 0 0, .pointer (some ⟨A, 3, none⟩), .slice a4 n4 c4, .slice p4 n4 q4, .pointer (some ⟨A, 4, none⟩), .int .i64 f, .agg #[.slice p1 n1 q1, .slice p2 n2 q2, .slice p3 n3 q3, .slice p4 n4 q4, .int .i64 f]], []⟩ (put5 X R (.slice p1 n1 q1) (.slice p2 n2 q2) (.slice p3 n3 q3) (.slice p4 n4 q4) (.int .i64 f)))) (HO : Hid (OW4 w0 W (.slice (some ⟨B1, 0, none⟩) 0 0) 0 [] (.slice none 0 0) 0 [] (.slice none 0 0) 0 [] (.slice (some ⟨B4, 0, none⟩) 0 0) 0 [])) :
    wpAnyH Try.prog .any ops16 (NoPanic Q) (fun X => X.cell? ⟨A, 0, none⟩ = some (.slice a1 n1 c1) ∧ X.cell? ⟨A, 1, none⟩ = some (.slice a2 n2 c2) ∧ X.cell? ⟨A, 2, none⟩ = some (.slice a3 n3 c3) ∧ X.cell? ⟨A, 3, none⟩ = some (.slice a4 n4 c4) ∧ X.cell? ⟨A, 4, none⟩ = some (.int .i64 f)) 8 #[true, true, true, false, false, true, true, false, false, true, true, false, true, true, true, false, true, true, false, false] ⟨#[x0, .pointer (some ⟨A, 0, none⟩), .pointer (some ⟨R, 0, none⟩), .slice (some ⟨B1, 0, none⟩) 0 0, .pointer (some ⟨A, 0, none⟩), .slice a1 n1 c1, undef, undef, .pointer (some ⟨A, 1, none⟩), .slice a2 n2 c2, undef, undef, .pointer (some ⟨A, 2, none⟩), .slice a3 n3 c3, undef, .slice (some ⟨B4, 0, none⟩) 0 0, .pointer (some ⟨A, 3, none⟩), .slice a4 n4 c4, undef, .pointer (some ⟨A, 4, none⟩), .int .i64 f, undef], []⟩ W := by
  unfold ops16
  refine wpAnyH_ready (rs := [3, 4, 8]) (by kernel_rfl) (by simp) ?_
  refine AllReadyH.cons (o := ⟨some 6, _, _, _, _, none⟩) rfl (fun K hK => ?_) (AllReadyH.cons (o := ⟨some 7, _, _, _, _, none⟩) rfl (fun K hK => ?_) (AllReadyH.cons (o := ⟨some 11, _, _, _, _, none⟩) rfl (fun K hK => ?_) (AllReadyH.nil)))
  · obtain ⟨p1, q1, w1, hr, ho⟩ := HO.out.app1 (c := c1) HN.out.1 HL.out.1 (HM.out _ HO.out.b).1
    have HOn := hide ho
    refine step16 (by rfl) (.tmp 3) (.tmp 5) 22 22 (by rfl) (.slice (some ⟨B1, 0, none⟩) 0 0) (.slice a1 n1 c1) (by rfl) (by rfl) (.slice p1 n1 q1) w1 (hr _) ?_
    refine hK.out _ _ (HSA.out _ HOn.out.b) (fun _ => ?_)
    simp only [Act.put, List.setIfInBounds_toArray, List.set_cons_zero, List.set_cons_succ]
    clear hK K hr ho HO
    exact owd_0_3_12 HN HL HM HSA HSP HRJ hQ HOn
  · have HOn := hide HO.out.alloc2
    go_simp
    refine hK.out _ _ (HSA.out _ HOn.out.b) (fun _ => ?_)
    clear hK K HO
    exact owd_0_4_12 HN HL HM HSA HSP HRJ hQ HOn
  · have HOn := hide HO.out.alloc3
    go_simp
    refine hK.out _ _ (HSA.out _ HOn.out.b) (fun _ => ?_)
    clear hK K HO
    exact owd_0_8_12 HN HL HM HSA HSP HRJ hQ HOn
set_option maxRecDepth 20000 in
set_option maxHeartbeats 4000000 in
theorem owd_4_8 {Q : Exit → Act → World → Prop} {w0 W : World} {a1 a2 a3 a4 : Option Addr} {n1 n2 n3 n4 c1 c2 c3 c4 A R : Nat} {f : Int} {x : Jb.J} {x0 : Value} {B2 : Nat} {B3 : Nat} (HN : Hid (x.xs.length = n1 ∧ x.ws.length = n2 ∧ x.L.length = n3 ∧ x.M.length = n4)) (HL : Hid (n1 ≤ 1000 ∧ n2 ≤ 1000 ∧ n3 ≤ 1000 ∧ n4 ≤ 1000)) (HM : Hid (∀ X, Below w0.heap.size w0 X → ARow X a1 x.xs ∧ ARow X a2 x.ws ∧ FRow X a3 x.L ∧ FRow X a4 x.M)) (HSA : Hid (∀ X, Below w0.heap.size w0 X → X.cell? ⟨A, 0, none⟩ = some (.slice a1 n1 c1) ∧ X.cell? ⟨A, 1, none⟩ = some (.slice a2 n2 c2) ∧ X.cell? ⟨A, 2, none⟩ = some (.slice a3 n3 c3) ∧ X.cell? ⟨A, 3, none⟩ = some (.slice a4 n4 c4) ∧ X.cell? ⟨A, 4, none⟩ = some (.int .i64 f))) (HSP : Hid (∀ X, Below w0.heap.size w0 X → ∀ v1 v2 v3 v4 v5 : Value, (fun X => X.cell? ⟨A, 0, none⟩ = some (.slice a1 n1 c1) ∧ X.cell? ⟨A, 1, none⟩ = some (.slice a2 n2 c2) ∧ X.cell? ⟨A, 2, none⟩ = some (.slice a3 n3 c3) ∧ X.cell? ⟨A, 3, none⟩ = some (.slice a4 n4 c4) ∧ X.cell? ⟨A, 4, none⟩ = some (.int .i64 f)) (put5 X R v1 v2 v3 v4 v5))) (HRJ : Hid (∀ X, Below w0.heap.size w0 X → JW X R 25 (.slice none 0 0) (.slice none 0 0) (.slice none 0 0) (.slice none 0 0) (.int .i64 0))) (hQ : Hid (∀ B1 B2 B3 B4 p1 q1 p2 q2 p3 q3 p4 q4 X, OW4 w0 X (.slice p1 n1 q1) n1 (ints x.xs) (.slice p2 n2 q2) n2 (ints x.ws) (.slice p3 n3 q3) n3 (mce x.L) (.slice p4 n4 q4) n4 (mce x.M) → Q .normal ⟨#[x0, .pointer (some ⟨A, 0, none⟩), .pointer (some ⟨R, 0, none⟩), .slice (some ⟨B1, 0, none⟩) 0 0, .pointer (some ⟨A, 0, none⟩), .slice a1 n1 c1, .slice p1 n1 q1, .slice (some ⟨B2, 0, none⟩) 0 0, .pointer (some ⟨A, 1, none⟩), .slice a2 n2 c2, .slice p2 n2 q2, .slice (some ⟨B3, 0, none⟩) 0 0, .pointer (some ⟨A, 2, none⟩), .slice a3 n3 c3, .slice p3 n3 q3, .slice (some ⟨B4, 0, none⟩) 0 0, .pointer (some ⟨A, 3, none⟩), .slice a4 n4 c4, .slice p4 n4 q4, .pointer (some ⟨A, 4, none⟩), .int .i64 f, .agg #[.slice p1 n1 q1, .slice p2 n2 q2, .slice p3 n3 q3, .slice p4 n4 q4, .int .i64 f]], []⟩ (put5 X R (.slice p1 n1 q1) (.slice p2 n2 q2) (.slice p3 n3 q3) (.slice p4 n4 q4) (.int .i64 f)))) (HO : Hid (OW4 w0 W (.slice none 0 0) 0 [] (.slice (some ⟨B2, 0, none⟩) 0 0) 0 [] (.slice (some ⟨B3, 0, none⟩) 0 0) 0 [] (.slice none 0 0) 0 [])) :
    wpAnyH Try.prog .any ops16 (NoPanic Q) (fun X => X.cell? ⟨A, 0, none⟩ = some (.slice a1 n1 c1) ∧ X.cell? ⟨A, 1, none⟩ = some (.slice a2 n2 c2) ∧ X.cell? ⟨A, 2, none⟩ = some (.slice a3 n3 c3) ∧ X.cell? ⟨A, 3, none⟩ = some (.slice a4 n4 c4) ∧ X.cell? ⟨A, 4, none⟩ = some (.int .i64 f)) 8 #[false, true, true, false, true, true, true, false, true, true, true, false, false, true, true, false, true, true, false, false] ⟨#[x0, .pointer (some ⟨A, 0, none⟩), .pointer (some ⟨R, 0, none⟩), undef, .pointer (some ⟨A, 0, none⟩), .slice a1 n1 c1, undef, .slice (some ⟨B2, 0, none⟩) 0 0, .pointer (some ⟨A, 1, none⟩), .slice a2 n2 c2, undef, .slice (some ⟨B3, 0, none⟩) 0 0, .pointer (some ⟨A, 2, none⟩), .slice a3 n3 c3, undef, undef, .pointer (some ⟨A, 3, none⟩), .slice a4 n4 c4, undef, .pointer (some ⟨A, 4, none⟩), .int .i64 f, undef], []⟩ W := by
  unfold ops16
  refine wpAnyH_ready (rs := [0, 12]) (by kernel_rfl) (by simp) ?_
  refine AllReadyH.cons (o := ⟨some 3, _, _, _, _, none⟩) rfl (fun K hK => ?_) (AllReadyH.cons (o := ⟨some 15, _, _, _, _, none⟩) rfl (fun K hK => ?_) (AllReadyH.nil))
  · have HOn := hide HO.out.alloc1
    go_simp
    refine hK.out _ _ (HSA.out _ HOn.out.b) (fun _ => ?_)
    clear hK K HO
    exact owd_0_4_8 HN HL HM HSA HSP HRJ hQ HOn
  · have HOn := hide HO.out.alloc4
    go_simp
    refine hK.out _ _ (HSA.out _ HOn.out.b) (fun _ => ?_)
    clear hK K HO
    exact owd_4_8_12 HN HL HM HSA HSP HRJ hQ HOn
set_option maxRecDepth 20000 in
set_option maxHeartbeats 4000000 in
theorem owd_4_12 {Q : Exit → Act → World → Prop} {w0 W : World} {a1 a2 a3 a4 : Option Addr} {n1 n2 n3 n4 c1 c2 c3 c4 A R : Nat} {f : Int} {x : Jb.J} {x0 : Value} {B2 : Nat} {B4 : Nat} (HN : Hid (x.xs.length = n1 ∧ x.ws.length = n2 ∧ x.L.length = n3 ∧ x.M.length = n4)) (HL : Hid (n1 ≤ 1000 ∧ n2 ≤ 1000 ∧ n3 ≤ 1000 ∧ n4 ≤ 1000)) (HM : Hid (∀ X, Below w0.heap.size w0 X → ARow X a1 x.xs ∧ ARow X a2 x.ws ∧ FRow X a3 x.L ∧ FRow X a4 x.M)) (HSA : Hid (∀ X, Below w0.heap.size w0 X → X.cell? ⟨A, 0, none⟩ = some (.slice a1 n1 c1) ∧ X.cell? ⟨A, 1, none⟩ = some (.slice a2 n2 c2) ∧ X.cell? ⟨A, 2, none⟩ = some (.slice a3 n3 c3) ∧ X.cell? ⟨A, 3, none⟩ = some (.slice a4 n4 c4) ∧ X.cell? ⟨A, 4, none⟩ = some (.int .i64 f))) (HSP : Hid (∀ X, Below w0.heap.size w0 X → ∀ v1 v2 v3 v4 v5 : Value, (fun X => X.cell? ⟨A, 0, none⟩ = some (.slice a1 n1 c1) ∧ X.cell? ⟨A, 1, none⟩ = some (.slice a2 n2 c2) ∧ X.cell? ⟨A, 2, none⟩ = some (.slice a3 n3 c3) ∧ X.cell? ⟨A, 3, none⟩ = some (.slice a4 n4 c4) ∧ X.cell? ⟨A, 4, none⟩ = some (.int .i64 f)) (put5 X R v1 v2 v3 v4 v5))) (HRJ : Hid (∀ X, Below w0.heap.size w0 X → JW X R 25 (.slice none 0 0) (.slice none 0 0) (.slice none 0 0) (.slice none 0 0) (.int .i64 0))) (hQ : Hid (∀ B1 B2 B3 B4 p1 q1 p2 q2 p3 q3 p4 q4 X, OW4 w0 X (.slice p1 n1 q1) n1 (ints x.xs) (.slice p2 n2 q2) n2 (ints x.ws) (.slice p3 n3 q3) n3 (mce x.L) (.slice p4 n4 q4) n4 (mce x.M) → Q .normal ⟨#[x0, .pointer (some ⟨A, 0, none⟩), .pointer (some ⟨R, 0, none⟩), .slice (some ⟨B1, 0, none⟩) 0 0, .pointer (some ⟨A, 0, none⟩), .slice a1 n1 c1, .slice p1 n1 q1, .slice (some ⟨B2, 0, none⟩) 0 0, .pointer (some ⟨A, 1, none⟩), .slice a2 n2 c2, .slice p2 n2 q2, .slice (some ⟨B3, 0, none⟩) 0 0, .pointer (some ⟨A, 2, none⟩), .slice a3 n3 c3, .slice p3 n3 q3, .slice (some ⟨B4, 0, none⟩) 0 0, .pointer (some ⟨A, 3, none⟩), .slice a4 n4 c4, .slice p4 n4 q4, .pointer (some ⟨A, 4, none⟩), .int .i64 f, .agg #[.slice p1 n1 q1, .slice p2 n2 q2, .slice p3 n3 q3, .slice p4 n4 q4, .int .i64 f]], []⟩ (put5 X R (.slice p1 n1 q1) (.slice p2 n2 q2) (.slice p3 n3 q3) (.slice p4 n4 q4) (.int .i64 f)))) (HO : Hid (OW4 w0 W (.slice none 0 0) 0 [] (.slice (some ⟨B2, 0, none⟩) 0 0) 0 [] (.slice none 0 0) 0 [] (.slice (some ⟨B4, 0, none⟩) 0 0) 0 [])) :
    wpAnyH Try.prog .any ops16 (NoPanic Q) (fun X => X.cell? ⟨A, 0, none⟩ = some (.slice a1 n1 c1) ∧ X.cell? ⟨A, 1, none⟩ = some (.slice a2 n2 c2) ∧ X.cell? ⟨A, 2, none⟩ = some (.slice a3 n3 c3) ∧ X.cell? ⟨A, 3, none⟩ = some (.slice a4 n4 c4) ∧ X.cell? ⟨A, 4, none⟩ = some (.int .i64 f)) 8 #[false, true, true, false, true, true, true, false, false, true, true, false, true, true, true, false, true, true, false, false] ⟨#[x0, .pointer (some ⟨A, 0, none⟩), .pointer (some ⟨R, 0, none⟩), undef, .pointer (some ⟨A, 0, none⟩), .slice a1 n1 c1, undef, .slice (some ⟨B2, 0, none⟩) 0 0, .pointer (some ⟨A, 1, none⟩), .slice a2 n2 c2, undef, undef, .pointer (some ⟨A, 2, none⟩), .slice a3 n3 c3, undef, .slice (some ⟨B4, 0, none⟩) 0 0, .pointer (some ⟨A, 3, none⟩), .slice a4 n4 c4, undef, .pointer (some ⟨A, 4, none⟩), .int .i64 f, undef], []⟩ W := by
  unfold ops16
  refine wpAnyH_ready (rs := [0, 8]) (by kernel_rfl) (by simp) ?_
  refine AllReadyH.cons (o := ⟨some 3, _, _, _, _, none⟩) rfl (fun K hK => ?_) (AllReadyH.cons (o := ⟨some 11, _, _, _, _, none⟩) rfl (fun K hK => ?_) (AllReadyH.nil))
  · have HOn := hide HO.out.alloc1
    go_simp
    refine hK.out _ _ (HSA.out _ HOn.out.b) (fun _ => ?_)
    clear hK K HO
    exact owd_0_4_12 HN HL HM HSA HSP HRJ hQ HOn
  · have HOn := hide HO.out.alloc3
    go_simp
    refine hK.out _ _ (HSA.out _ HOn.out.b) (fun _ => ?_)
    clear hK K HO
    exact owd_4_8_12 HN HL HM HSA HSP HRJ hQ HOn
set_option maxRecDepth 20000 in
set_option maxHeartbeats 4000000 in
theorem owd_8_12 {Q : Exit → Act → World → Prop} {w0 W : World} {a1 a2 a3 a4 : Option Addr} {n1 n2 n3 n4 c1 c2 c3 c4 A R : Nat} {f : Int} {x : Jb.J} {x0 : Value} {B3 : Nat} {B4 : Nat} (HN : Hid (x.xs.length = n1 ∧ x.ws.length = n2 ∧ x.L.length = n3 ∧ x.M.length = n4)) (HL : Hid (n1 ≤ 1000 ∧ n2 ≤ 1000 ∧ n3 ≤ 1000 ∧ n4 ≤ 1000)) (HM : Hid (∀ X, Below w0.heap.size w0 X → ARow X a1 x.xs ∧ ARow X a2 x.ws ∧ FRow X a3 x.L ∧ FRow X a4 x.M)) (HSA : Hid (∀ X, Below w0.heap.size w0 X → X.cell? ⟨A, 0, none⟩ = some (.slice a1 n1 c1) ∧ X.cell? ⟨A, 1, none⟩ = some (.slice a2 n2 c2) ∧ X.cell? ⟨A, 2, none⟩ = some (.slice a3 n3 c3) ∧ X.cell? ⟨A, 3, none⟩ = some (.slice a4 n4 c4) ∧ X.cell? ⟨A, 4, none⟩ = some (.int .i64 f))) (HSP : Hid (∀ X, Below w0.heap.size w0 X → ∀ v1 v2 v3 v4 v5 : Value, (fun X => X.cell? ⟨A, 0, none⟩ = some (.slice a1 n1 c1) ∧ X.cell? ⟨A, 1, none⟩ = some (.slice a2 n2 c2) ∧ X.cell? ⟨A, 2, none⟩ = some (.slice a3 n3 c3) ∧ X.cell? ⟨A, 3, none⟩ = some (.slice a4 n4 c4) ∧ X.cell? ⟨A, 4, none⟩ = some (.int .i64 f)) (put5 X R v1 v2 v3 v4 v5))) (HRJ : Hid (∀ X, Below w0.heap.size w0 X → JW X R 25 (.slice none 0 0) (.slice none 0 0) (.slice none 0 0) (.slice none 0 0) (.int .i64 0))) (hQ : Hid (∀ B1 B2 B3 B4 p1 q1 p2 q2 p3 q3 p4 q4 X, OW4 w0 X (.slice p1 n1 q1) n1 (ints x.xs) (.slice p2 n2 q2) n2 (ints x.ws) (.slice p3 n3 q3) n3 (mce x.L) (.slice p4 n4 q4) n4 (mce x.M) → Q .normal ⟨#[x0, .pointer (some ⟨A, 0, none⟩), .pointer (some ⟨R, 0, none⟩), .slice (some ⟨B1, 0, none⟩) 0 0, .pointer (some ⟨A, 0, none⟩), .slice a1 n1 c1, .slice p1 n1 q1, .slice (some ⟨B2, 0, none⟩) 0 0, .pointer (some ⟨A, 1, none⟩), .slice a2 n2 c2, .slice p2 n2 q2, .slice (some ⟨B3, 0, none⟩) 0 0, .pointer (some ⟨A, 2, none⟩), .slice a3 n3 c3, .slice p3 n3 q3, .slice (some ⟨B4, 0, none⟩) 0 0, .pointer (some ⟨A, 3, none⟩), .slice a4 n4 c4, .slice p4 n4 q4, .pointer (some ⟨A, 4, none⟩), .int .i64 f, .agg #[.slice p1 n1 q1, .slice p2 n2 q2, .slice p3 n3 q3, .slice p4 n4 q4, .int .i64 f]], []⟩ (put5 X R (.slice p1 n1 q1) (.slice p2 n2 q2) (.slice p3 n3 q3) (.slice p4 n4 q4) (.int .i64 f)))) (HO : Hid (OW4 w0 W (.slice none 0 0) 0 [] (.slice none 0 0) 0 [] (.slice (some ⟨B3, 0, none⟩) 0 0) 0 [] (.slice (some ⟨B4, 0, none⟩) 0 0) 0 [])) :
    wpAnyH Try.prog .any ops16 (NoPanic Q) (fun X => X.cell? ⟨A, 0, none⟩ = some (.slice a1 n1 c1) ∧ X.cell? ⟨A, 1, none⟩ = some (.slice a2 n2 c2) ∧ X.cell? ⟨A, 2, none⟩ = some (.slice a3 n3 c3) ∧ X.cell? ⟨A, 3, none⟩ = some (.slice a4 n4 c4) ∧ X.cell? ⟨A, 4, none⟩ = some (.int .i64 f)) 8 #[false, true, true, false, false, true, true, false, true, true, true, false, true, true, true, false, true, true, false, false] ⟨#[x0, .pointer (some ⟨A, 0, none⟩), .pointer (some ⟨R, 0, none⟩), undef, .pointer (some ⟨A, 0, none⟩), .slice a1 n1 c1, undef, undef, .pointer (some ⟨A, 1, none⟩), .slice a2 n2 c2, undef, .slice (some ⟨B3, 0, none⟩) 0 0, .pointer (some ⟨A, 2, none⟩), .slice a3 n3 c3, undef, .slice (some ⟨B4, 0, none⟩) 0 0, .pointer (some ⟨A, 3, none⟩), .slice a4 n4 c4, undef, .pointer (some ⟨A, 4, none⟩), .int .i64 f, undef], []⟩ W := by
  unfold ops16
  refine wpAnyH_ready (rs := [0, 4]) (by kernel_rfl) (by simp) ?_
  refine AllReadyH.cons (o := ⟨some 3, _, _, _, _, none⟩) rfl (fun K hK => ?_) (AllReadyH.cons (o := ⟨some 7, _, _, _, _, none⟩) rfl (fun K hK => ?_) (AllReadyH.nil))
  · have HOn := hide HO.out.alloc1
    go_simp
    refine hK.out _ _ (HSA.out _ HOn.out.b) (fun _ => ?_)
    clear hK K HO
    exact owd_0_8_12 HN HL HM HSA HSP HRJ hQ HOn
  · have HOn := hide HO.out.alloc2
    go_simp
    refine hK.out _ _ (HSA.out _ HOn.out.b) (fun _ => ?_)
    clear hK K HO
    exact owd_4_8_12 HN HL HM HSA HSP HRJ hQ HOn
set_option maxRecDepth 20000 in
set_option maxHeartbeats 4000000 in
theorem owd_0 {Q : Exit → Act → World → Prop} {w0 W : World} {a1 a2 a3 a4 : Option Addr} {n1 n2 n3 n4 c1 c2 c3 c4 A R : Nat} {f : Int} {x : Jb.J} {x0 : Value} {B1 : Nat} (HN : Hid (x.xs.length = n1 ∧ x.ws.length = n2 ∧ x.L.length = n3 ∧ x.M.length = n4)) (HL : Hid (n1 ≤ 1000 ∧ n2 ≤ 1000 ∧ n3 ≤ 1000 ∧ n4 ≤ 1000)) (HM : Hid (∀ X, Below w0.heap.size w0 X → ARow X a1 x.xs ∧ ARow X a2 x.ws ∧ FRow X a3 x.L ∧ FRow X a4 x.M)) (HSA : Hid (∀ X, Below w0.heap.size w0 X → X.cell? ⟨A, 0, none⟩ = some (.slice a1 n1 c1) ∧ X.cell? ⟨A, 1, none⟩ = some (.slice a2 n2 c2) ∧ X.cell? ⟨A, 2, none⟩ = some (.slice a3 n3 c3) ∧ X.cell? ⟨A, 3, none⟩ = some (.slice a4 n4 c4) ∧ X.cell? ⟨A, 4, none⟩ = some (.int .i64 f))) (HSP : Hid (∀ X, Below w0.heap.size w0 X → ∀ v1 v2 v3 v4 v5 : Value, (fun X => X.cell? ⟨A, 0, none⟩ = some (.slice a1 n1 c1) ∧ X.cell? ⟨A, 1, none⟩ = some (.slice a2 n2 c2) ∧ X.cell? ⟨A, 2, none⟩ = some (.slice a3 n3 c3) ∧ X.cell? ⟨A, 3, none⟩ = some (.slice a4 n4 c4) ∧ X.cell? ⟨A, 4, none⟩ = some (.int .i64 f)) (put5 X R v1 v2 v3 v4 v5))) (HRJ : Hid (∀ X, Below w0.heap.size w0 X → JW X R 25 (.slice none 0 0) (.slice none 0 0) (.slice none 0 0) (.slice none 0 0) (.int .i64 0))) (hQ : Hid (∀ B1 B2 B3 B4 p1 q1 p2 q2 p3 q3 p4 q4 X, OW4 w0 X (.slice p1 n1 q1) n1 (ints x.xs) (.slice p2 n2 q2) n2 (ints x.ws) (.slice p3 n3 q3) n3 (mce x.L) (.slice p4 n4 q4) n4 (mce x.M) → Q .normal ⟨#[x0, .pointer (some ⟨A, 0, none⟩), .pointer (some ⟨R, 0, none⟩), .slice (some ⟨B1, 0, none⟩) 0 0, .pointer (some ⟨A, 0, none⟩), .slice a1 n1 c1, .slice p1 n1 q1, .slice (some ⟨B2, 0, none⟩) 0 0, .pointer (some ⟨A, 1, none⟩), .slice a2 n2 c2, .slice p2 n2 q2, .slice (some ⟨B3, 0, none⟩) 0 0, .pointer (some ⟨A, 2, none⟩), .slice a3 n3 c3, .slice p3 n3 q3, .slice (some ⟨B4, 0, none⟩) 0 0, .pointer (some ⟨A, 3, none⟩), .slice a4 n4 c4, .slice p4 n4 q4, .pointer (some ⟨A, 4, none⟩), .int .i64 f, .agg #[.slice p1 n1 q1, .slice p2 n2 q2, .slice p3 n3 q3, .slice p4 n4 q4, .int .i64 f]], []⟩ (put5 X R (.slice p1 n1 q1) (.slice p2 n2 q2) (.slice p3 n3 q3) (.slice p4 n4 q4) (.int .i64 f)))) (HO : Hid (OW4 w0 W (.slice (some ⟨B1, 0, none⟩) 0 0) 0 [] (.slice none 0 0) 0 [] (.slice none 0 0) 0 [] (.slice none 0 0) 0 [])) :
    wpAnyH Try.prog .any ops16 (NoPanic Q) (fun X => X.cell? ⟨A, 0, none⟩ = some (.slice a1 n1 c1) ∧ X.cell? ⟨A, 1, none⟩ = some (.slice a2 n2 c2) ∧ X.cell? ⟨A, 2, none⟩ = some (.slice a3 n3 c3) ∧ X.cell? ⟨A, 3, none⟩ = some (.slice a4 n4 c4) ∧ X.cell? ⟨A, 4, none⟩ = some (.int .i64 f)) 9 #[true, true, true, false, false, true, true, false, false, true, true, false, false, true, true, false, true, true, false, false] ⟨#[x0, .pointer (some ⟨A, 0, none⟩), .pointer (some ⟨R, 0, none⟩), .slice (some ⟨B1, 0, none⟩) 0 0, .pointer (some ⟨A, 0, none⟩), .slice a1 n1 c1, undef, undef, .pointer (some ⟨A, 1, none⟩), .slice a2 n2 c2, undef, undef, .pointer (some ⟨A, 2, none⟩), .slice a3 n3 c3, undef, undef, .pointer (some ⟨A, 3, none⟩), .slice a4 n4 c4, undef, .pointer (some ⟨A, 4, none⟩), .int .i64 f, undef], []⟩ W := by
  unfold ops16
  refine wpAnyH_ready (rs := [3, 4, 8, 12]) (by kernel_rfl) (by simp) ?_
  refine AllReadyH.cons (o := ⟨some 6, _, _, _, _, none⟩) rfl (fun K hK => ?_) (AllReadyH.cons (o := ⟨some 7, _, _, _, _, none⟩) rfl (fun K hK => ?_) (AllReadyH.cons (o := ⟨some 11, _, _, _, _, none⟩) rfl (fun K hK => ?_) (AllReadyH.cons (o := ⟨some 15, _, _, _, _, none⟩) rfl (fun K hK => ?_) (AllReadyH.nil))))
  · obtain ⟨p1, q1, w1, hr, ho⟩ := HO.out.app1 (c := c1) HN.out.1 HL.out.1 (HM.out _ HO.out.b).1
    have HOn := hide ho
    refine step16 (by rfl) (.tmp 3) (.tmp 5) 22 22 (by rfl) (.slice (some ⟨B1, 0, none⟩) 0 0) (.slice a1 n1 c1) (by rfl) (by rfl) (.slice p1 n1 q1) w1 (hr _) ?_
    refine hK.out _ _ (HSA.out _ HOn.out.b) (fun _ => ?_)
    simp only [Act.put, List.setIfInBounds_toArray, List.set_cons_zero, List.set_cons_succ]
    clear hK K hr ho HO
    exact owd_0_3 HN HL HM HSA HSP HRJ hQ HOn
  · have HOn := hide HO.out.alloc2
    go_simp
    refine hK.out _ _ (HSA.out _ HOn.out.b) (fun _ => ?_)
    clear hK K HO
    exact owd_0_4 HN HL HM HSA HSP HRJ hQ HOn
  · have HOn := hide HO.out.alloc3
    go_simp
    refine hK.out _ _ (HSA.out _ HOn.out.b) (fun _ => ?_)
    clear hK K HO
    exact owd_0_8 HN HL HM HSA HSP HRJ hQ HOn
  · have HOn := hide HO.out.alloc4
    go_simp
    refine hK.out _ _ (HSA.out _ HOn.out.b) (fun _ => ?_)
    clear hK K HO
    exact owd_0_12 HN HL HM HSA HSP HRJ hQ HOn
set_option maxRecDepth 20000 in
set_option maxHeartbeats 4000000 in
theorem owd_4 {Q : Exit → Act → World → Prop} {w0 W : World} {a1 a2 a3 a4 : Option Addr} {n1 n2 n3 n4 c1 c2 c3 c4 A R : Nat} {f : Int} {x : Jb.J} {x0 : Value} {B2 : Nat} (HN : Hid (x.xs.length = n1 ∧ x.ws.length = n2 ∧ x.L.length = n3 ∧ x.M.length = n4)) (HL : Hid (n1 ≤ 1000 ∧ n2 ≤ 1000 ∧ n3 ≤ 1000 ∧ n4 ≤ 1000)) (HM : Hid (∀ X, Below w0.heap.size w0 X → ARow X a1 x.xs ∧ ARow X a2 x.ws ∧ FRow X a3 x.L ∧ FRow X a4 x.M)) (HSA : Hid (∀ X, Below w0.heap.size w0 X → X.cell? ⟨A, 0, none⟩ = some (.slice a1 n1 c1) ∧ X.cell? ⟨A, 1, none⟩ = some (.slice a2 n2 c2) ∧ X.cell? ⟨A, 2, none⟩ = some (.slice a3 n3 c3) ∧ X.cell? ⟨A, 3, none⟩ = some (.slice a4 n4 c4) ∧ X.cell? ⟨A, 4, none⟩ = some (.int .i64 f))) (HSP : Hid (∀ X, Below w0.heap.size w0 X → ∀ v1 v2 v3 v4 v5 : Value, (fun X => X.cell? ⟨A, 0, none⟩ = some (.slice a1 n1 c1) ∧ X.cell? ⟨A, 1, none⟩ = some (.slice a2 n2 c2) ∧ X.cell? ⟨A, 2, none⟩ = some (.slice a3 n3 c3) ∧ X.cell? ⟨A, 3, none⟩ = some (.slice a4 n4 c4) ∧ X.cell? ⟨A, 4, none⟩ = some (.int .i64 f)) (put5 X R v1 v2 v3 v4 v5))) (HRJ : Hid (∀ X, Below w0.heap.size w0 X → JW X R 25 (.slice none 0 0) (.slice none 0 0) (.slice none 0 0) (.slice none 0 0) (.int .i64 0))) (hQ : Hid (∀ B1 B2 B3 B4 p1 q1 p2 q2 p3 q3 p4 q4 X, OW4 w0 X (.slice p1 n1 q1) n1 (ints x.xs) (.slice p2 n2 q2) n2 (ints x.ws) (.slice p3 n3 q3) n3 (mce x.L) (.slice p4 n4 q4) n4 (mce x.M) → Q .normal ⟨#[x0, .pointer (some ⟨A, 0, none⟩), .pointer (some ⟨R, 0, none⟩), .slice (some ⟨B1, 0, none⟩) 0 0, .pointer (some ⟨A, 0, none⟩), .slice a1 n1 c1, .slice p1 n1 q1, .slice (some ⟨B2, 0, none⟩) 0 0, .pointer (some ⟨A, 1, none⟩), .slice a2 n2 c2, .slice p2 n2 q2, .slice (some ⟨B3, 0, none⟩) 0 0, .pointer (some ⟨A, 2, none⟩), .slice a3 n3 c3, .slice p3 n3 q3, .slice (some ⟨B4, 0, none⟩) 0 0, .pointer (some ⟨A, 3, none⟩), .slice a4 n4 c4, .slice p4 n4 q4, .pointer (some ⟨A, 4, none⟩), .int .i64 f, .agg #[.slice p1 n1 q1, .slice p2 n2 q2, .slice p3 n3 q3, .slice p4 n4 q4, .int .i64 f]], []⟩ (put5 X R (.slice p1 n1 q1) (.slice p2 n2 q2) (.slice p3 n3 q3) (.slice p4 n4 q4) (.int .i64 f)))) (HO : Hid (OW4 w0 W (.slice none 0 0) 0 [] (.slice (some ⟨B2, 0, none⟩) 0 0) 0 [] (.slice none 0 0) 0 [] (.slice none 0 0) 0 [])) :
    wpAnyH Try.prog .any ops16 (NoPanic Q) (fun X => X.cell? ⟨A, 0, none⟩ = some (.slice a1 n1 c1) ∧ X.cell? ⟨A, 1, none⟩ = some (.slice a2 n2 c2) ∧ X.cell? ⟨A, 2, none⟩ = some (.slice a3 n3 c3) ∧ X.cell? ⟨A, 3, none⟩ = some (.slice a4 n4 c4) ∧ X.cell? ⟨A, 4, none⟩ = some (.int .i64 f)) 9 #[false, true, true, false, true, true, true, false, false, true, true, false, false, true, true, false, true, true, false, false] ⟨#[x0, .pointer (some ⟨A, 0, none⟩), .pointer (some ⟨R, 0, none⟩), undef, .pointer (some ⟨A, 0, none⟩), .slice a1 n1 c1, undef, .slice (some ⟨B2, 0, none⟩) 0 0, .pointer (some ⟨A, 1, none⟩), .slice a2 n2 c2, undef, undef, .pointer (some ⟨A, 2, none⟩), .slice a3 n3 c3, undef, undef, .pointer (some ⟨A, 3, none⟩), .slice a4 n4 c4, undef, .pointer (some ⟨A, 4, none⟩), .int .i64 f, undef], []⟩ W := by
  unfold ops16
  refine wpAnyH_ready (rs := [0, 8, 12]) (by kernel_rfl) (by simp) ?_
  refine AllReadyH.cons (o := ⟨some 3, _, _, _, _, none⟩) rfl (fun K hK => ?_) (AllReadyH.cons (o := ⟨some 11, _, _, _, _, none⟩) rfl (fun K hK => ?_) (AllReadyH.cons (o := ⟨some 15, _, _, _, _, none⟩) rfl (fun K hK => ?_) (AllReadyH.nil)))
  · have HOn := hide HO.out.alloc1
    go_simp
    refine hK.out _ _ (HSA.out _ HOn.out.b) (fun _ => ?_)
    clear hK K HO
    exact owd_0_4 HN HL HM HSA HSP HRJ hQ HOn
  · have HOn := hide HO.out.alloc3
    go_simp
    refine hK.out _ _ (HSA.out _ HOn.out.b) (fun _ => ?_)
    clear hK K HO
    exact owd_4_8 HN HL HM HSA HSP HRJ hQ HOn
  · have HOn := hide HO.out.alloc4
    go_simp
    refine hK.out _ _ (HSA.out _ HOn.out.b) (fun _ => ?_)
    clear hK K HO
    exact owd_4_12 HN HL HM HSA HSP HRJ hQ HOn
set_option maxRecDepth 20000 in
set_option maxHeartbeats 4000000 in
theorem owd_8 {Q : Exit → Act → World → Prop} {w0 W : World} {a1 a2 a3 a4 : Option Addr} {n1 n2 n3 n4 c1 c2 c3 c4 A R : Nat} {f : Int} {x : Jb.J} {x0 : Value} {B3 : Nat} (HN : Hid (x.xs.length = n1 ∧ x.ws.length = n2 ∧ x.L.length = n3 ∧ x.M.length = n4)) (HL : Hid (n1 ≤ 1000 ∧ n2 ≤ 1000 ∧ n3 ≤ 1000 ∧ n4 ≤ 1000)) (HM : Hid (∀ X, Below w0.heap.size w0 X → ARow X a1 x.xs ∧ ARow X a2 x.ws ∧ FRow X a3 x.L ∧ FRow X a4 x.M)) (HSA : Hid (∀ X, Below w0.heap.size w0 X → X.cell? ⟨A, 0, none⟩ = some (.slice a1 n1 c1) ∧ X.cell? ⟨A, 1, none⟩ = some (.slice a2 n2 c2) ∧ X.cell? ⟨A, 2, none⟩ = some (.slice a3 n3 c3) ∧ X.cell? ⟨A, 3, none⟩ = some (.slice a4 n4 c4) ∧ X.cell? ⟨A, 4, none⟩ = some (.int .i64 f))) (HSP : Hid (∀ X, Below w0.heap.size w0 X → ∀ v1 v2 v3 v4 v5 : Value, (fun X => X.cell? ⟨A, 0, none⟩ = some (.slice a1 n1 c1) ∧ X.cell? ⟨A, 1, none⟩ = some (.slice a2 n2 c2) ∧ X.cell? ⟨A, 2, none⟩ = some (.slice a3 n3 c3) ∧ X.cell? ⟨A, 3, none⟩ = some (.slice a4 n4 c4) ∧ X.cell? ⟨A, 4, none⟩ = some (.int .i64 f)) (put5 X R v1 v2 v3 v4 v5))) (HRJ : Hid (∀ X, Below w0.heap.size w0 X → JW X R 25 (.slice none 0 0) (.slice none 0 0) (.slice none 0 0) (.slice none 0 0) (.int .i64 0))) (hQ : Hid (∀ B1 B2 B3 B4 p1 q1 p2 q2 p3 q3 p4 q4 X, OW4 w0 X (.slice p1 n1 q1) n1 (ints x.xs) (.slice p2 n2 q2) n2 (ints x.ws) (.slice p3 n3 q3) n3 (mce x.L) (.slice p4 n4 q4) n4 (mce x.M) → Q .normal ⟨#[x0, .pointer (some ⟨A, 0, none⟩), .pointer (some ⟨R, 0, none⟩), .slice (some ⟨B1, 0, none⟩) 0 0, .pointer (some ⟨A, 0, none⟩), .slice a1 n1 c1, .slice p1 n1 q1, .slice (some ⟨B2, 0, none⟩) 0 0, .pointer (some ⟨A, 1, none⟩), .slice a2 n2 c2, .slice p2 n2 q2, .slice (some ⟨B3, 0, none⟩) 0 0, .pointer (some ⟨A, 2, none⟩), .slice a3 n3 c3, .slice p3 n3 q3, .slice (some ⟨B4, 0, none⟩) 0 0, .pointer (some ⟨A, 3, none⟩), .slice a4 n4 c4, .slice p4 n4 q4, .pointer (some ⟨A, 4, none⟩), .int .i64 f, .agg #[.slice p1 n1 q1, .slice p2 n2 q2, .slice p3 n3 q3, .slice p4 n4 q4, .int .i64 f]], []⟩ (put5 X R (.slice p1 n1 q1) (.slice p2 n2 q2) (.slice p3 n3 q3) (.slice p4 n4 q4) (.int .i64 f)))) (HO : Hid (OW4 w0 W (.slice none 0 0) 0 [] (.slice none 0 0) 0 [] (.slice (some ⟨B3, 0, none⟩) 0 0) 0 [] (.slice none 0 0) 0 [])) :
    wpAnyH Try.prog .any ops16 (NoPanic Q) (fun X => X.cell? ⟨A, 0, none⟩ = some (.slice a1 n1 c1) ∧ X.cell? ⟨A, 1, none⟩ = some (.slice a2 n2 c2) ∧ X.cell? ⟨A, 2, none⟩ = some (.slice a3 n3 c3) ∧ X.cell? ⟨A, 3, none⟩ = some (.slice a4 n4 c4) ∧ X.cell? ⟨A, 4, none⟩ = some (.int .i64 f)) 9 #[false, true, true, false, false, true, true, false, true, true, true, false, false, true, true, false, true, true, false, false] ⟨#[x0, .pointer (some ⟨A, 0, none⟩), .pointer (some ⟨R, 0, none⟩), undef, .pointer (some ⟨A, 0, none⟩), .slice a1 n1 c1, undef, undef, .pointer (some ⟨A, 1, none⟩), .slice a2 n2 c2, undef, .slice (some ⟨B3, 0, none⟩) 0 0, .pointer (some ⟨A, 2, none⟩), .slice a3 n3 c3, undef, undef, .pointer (some ⟨A, 3, none⟩), .slice a4 n4 c4, undef, .pointer (some ⟨A, 4, none⟩), .int .i64 f, undef], []⟩ W := by
  unfold ops16
  refine wpAnyH_ready (rs := [0, 4, 12]) (by kernel_rfl) (by simp) ?_
  refine AllReadyH.cons (o := ⟨some 3, _, _, _, _, none⟩) rfl (fun K hK => ?_) (AllReadyH.cons (o := ⟨some 7, _, _, _, _, none⟩) rfl (fun K hK => ?_) (AllReadyH.cons (o := ⟨some 15, _, _, _, _, none⟩) rfl (fun K hK => ?_) (AllReadyH.nil)))
  · have HOn := hide HO.out.alloc1
    go_simp
    refine hK.out _ _ (HSA.out _ HOn.out.b) (fun _ => ?_)
    clear hK K HO
    exact owd_0_8 HN HL HM HSA HSP HRJ hQ HOn
  · have HOn := hide HO.out.alloc2
    go_simp
    refine hK.out _ _ (HSA.out _ HOn.out.b) (fun _ => ?_)
    clear hK K HO
    exact owd_4_8 HN HL HM HSA HSP HRJ hQ HOn
  · have HOn := hide HO.out.alloc4
    go_simp
    refine hK.out _ _ (HSA.out _ HOn.out.b) (fun _ => ?_)
    clear hK K HO
    exact owd_8_12 HN HL HM HSA HSP HRJ hQ HOn
set_option maxRecDepth 20000 in
set_option maxHeartbeats 4000000 in
theorem owd_12 {Q : Exit → Act → World → Prop} {w0 W : World} {a1 a2 a3 a4 : Option Addr} {n1 n2 n3 n4 c1 c2 c3 c4 A R : Nat} {f : Int} {x : Jb.J} {x0 : Value} {B4 : Nat} (HN : Hid (x.xs.length = n1 ∧ x.ws.length = n2 ∧ x.L.length = n3 ∧ x.M.length = n4)) (HL : Hid (n1 ≤ 1000 ∧ n2 ≤ 1000 ∧ n3 ≤ 1000 ∧ n4 ≤ 1000)) (HM : Hid (∀ X, Below w0.heap.size w0 X → ARow X a1 x.xs ∧ ARow X a2 x.ws ∧ FRow X a3 x.L ∧ FRow X a4 x.M)) (HSA : Hid (∀ X, Below w0.heap.size w0 X → X.cell? ⟨A, 0, none⟩ = some (.slice a1 n1 c1) ∧ X.cell? ⟨A, 1, none⟩ = some (.slice a2 n2 c2) ∧ X.cell? ⟨A, 2, none⟩ = some (.slice a3 n3 c3) ∧ X.cell? ⟨A, 3, none⟩ = some (.slice a4 n4 c4) ∧ X.cell? ⟨A, 4, none⟩ = some (.int .i64 f))) (HSP : Hid (∀ X, Below w0.heap.size w0 X → ∀ v1 v2 v3 v4 v5 : Value, (fun X => X.cell? ⟨A, 0, none⟩ = some (.slice a1 n1 c1) ∧ X.cell? ⟨A, 1, none⟩ = some (.slice a2 n2 c2) ∧ X.cell? ⟨A, 2, none⟩ = some (.slice a3 n3 c3) ∧ X.cell? ⟨A, 3, none⟩ = some (.slice a4 n4 c4) ∧ X.cell? ⟨A, 4, none⟩ = some (.int .i64 f)) (put5 X R v1 v2 v3 v4 v5))) (HRJ : Hid (∀ X, Below w0.heap.size w0 X → JW X R 25 (.slice none 0 0) (.slice none 0 0) (.slice none 0 0) (.slice none 0 0) (.int .i64 0))) (hQ : Hid (∀ B1 B2 B3 B4 p1 q1 p2 q2 p3 q3 p4 q4 X, OW4 w0 X (.slice p1 n1 q1) n1 (ints x.xs) (.slice p2 n2 q2) n2 (ints x.ws) (.slice p3 n3 q3) n3 (mce x.L) (.slice p4 n4 q4) n4 (mce x.M) → Q .normal ⟨#[x0, .pointer (some ⟨A, 0, none⟩), .pointer (some ⟨R, 0, none⟩), .slice (some ⟨B1, 0, none⟩) 0 0, .pointer (some ⟨A, 0, none⟩), .slice a1 n1 c1, .slice p1 n1 q1, .slice (some ⟨B2, 0, none⟩) 0 0, .pointer (some ⟨A, 1, none⟩), .slice a2 n2 c2, .slice p2 n2 q2, .slice (some ⟨B3, 0, none⟩) 0 0, .pointer (some ⟨A, 2, none⟩), .slice a3 n3 c3, .slice p3 n3 q3, .slice (some ⟨B4, 0, none⟩) 0 0, .pointer (some ⟨A, 3, none⟩), .slice a4 n4 c4, .slice p4 n4 q4, .pointer (some ⟨A, 4, none⟩), .int .i64 f, .agg #[.slice p1 n1 q1, .slice p2 n2 q2, .slice p3 n3 q3, .slice p4 n4 q4, .int .i64 f]], []⟩ (put5 X R (.slice p1 n1 q1) (.slice p2 n2 q2) (.slice p3 n3 q3) (.slice p4 n4 q4) (.int .i64 f)))) (HO : Hid (OW4 w0 W (.slice none 0 0) 0 [] (.slice none 0 0) 0 [] (.slice none 0 0) 0 [] (.slice (some ⟨B4, 0, none⟩) 0 0) 0 [])) :
    wpAnyH Try.prog .any ops16 (NoPanic Q) (fun X => X.cell? ⟨A, 0, none⟩ = some (.slice a1 n1 c1) ∧ X.cell? ⟨A, 1, none⟩ = some (.slice a2 n2 c2) ∧ X.cell? ⟨A, 2, none⟩ = some (.slice a3 n3 c3) ∧ X.cell? ⟨A, 3, none⟩ = some (.slice a4 n4 c4) ∧ X.cell? ⟨A, 4, none⟩ = some (.int .i64 f)) 9 #[false, true, true, false, false, true, true, false, false, true, true, false, true, true, true, false, true, true, false, false] ⟨#[x0, .pointer (some ⟨A, 0, none⟩), .pointer (some ⟨R, 0, none⟩), undef, .pointer (some ⟨A, 0, none⟩), .slice a1 n1 c1, undef, undef, .pointer (some ⟨A, 1, none⟩), .slice a2 n2 c2, undef, undef, .pointer (some ⟨A, 2, none⟩), .slice a3 n3 c3, undef, .slice (some ⟨B4, 0, none⟩) 0 0, .pointer (some ⟨A, 3, none⟩), .slice a4 n4 c4, undef, .pointer (some ⟨A, 4, none⟩), .int .i64 f, undef], []⟩ W := by
  unfold ops16
  refine wpAnyH_ready (rs := [0, 4, 8]) (by kernel_rfl) (by simp) ?_
  refine AllReadyH.cons (o := ⟨some 3, _, _, _, _, none⟩) rfl (fun K hK => ?_) (AllReadyH.cons (o := ⟨some 7, _, _, _, _, none⟩) rfl (fun K hK => ?_) (AllReadyH.cons (o := ⟨some 11, _, _, _, _, none⟩) rfl (fun K hK => ?_) (AllReadyH.nil)))
  · have HOn := hide HO.out.alloc1
    go_simp
    refine hK.out _ _ (HSA.out _ HOn.out.b) (fun _ => ?_)
    clear hK K HO
    exact owd_0_12 HN HL HM HSA HSP HRJ hQ HOn
  · have HOn := hide HO.out.alloc2
    go_simp
    refine hK.out _ _ (HSA.out _ HOn.out.b) (fun _ => ?_)
    clear hK K HO
    exact owd_4_12 HN HL HM HSA HSP HRJ hQ HOn
  · have HOn := hide HO.out.alloc3
    go_simp
    refine hK.out _ _ (HSA.out _ HOn.out.b) (fun _ => ?_)
    clear hK K HO
    exact owd_8_12 HN HL HM HSA HSP HRJ hQ HOn
set_option maxRecDepth 20000 in
set_option maxHeartbeats 4000000 in
theorem owd_n {Q : Exit → Act → World → Prop} {w0 W : World} {a1 a2 a3 a4 : Option Addr} {n1 n2 n3 n4 c1 c2 c3 c4 A R : Nat} {f : Int} {x : Jb.J} {x0 : Value} (HN : Hid (x.xs.length = n1 ∧ x.ws.length = n2 ∧ x.L.length = n3 ∧ x.M.length = n4)) (HL : Hid (n1 ≤ 1000 ∧ n2 ≤ 1000 ∧ n3 ≤ 1000 ∧ n4 ≤ 1000)) (HM : Hid (∀ X, Below w0.heap.size w0 X → ARow X a1 x.xs ∧ ARow X a2 x.ws ∧ FRow X a3 x.L ∧ FRow X a4 x.M)) (HSA : Hid (∀ X, Below w0.heap.size w0 X → X.cell? ⟨A, 0, none⟩ = some (.slice a1 n1 c1) ∧ X.cell? ⟨A, 1, none⟩ = some (.slice a2 n2 c2) ∧ X.cell? ⟨A, 2, none⟩ = some (.slice a3 n3 c3) ∧ X.cell? ⟨A, 3, none⟩ = some (.slice a4 n4 c4) ∧ X.cell? ⟨A, 4, none⟩ = some (.int .i64 f))) (HSP : Hid (∀ X, Below w0.heap.size w0 X → ∀ v1 v2 v3 v4 v5 : Value, (fun X => X.cell? ⟨A, 0, none⟩ = some (.slice a1 n1 c1) ∧ X.cell? ⟨A, 1, none⟩ = some (.slice a2 n2 c2) ∧ X.cell? ⟨A, 2, none⟩ = some (.slice a3 n3 c3) ∧ X.cell? ⟨A, 3, none⟩ = some (.slice a4 n4 c4) ∧ X.cell? ⟨A, 4, none⟩ = some (.int .i64 f)) (put5 X R v1 v2 v3 v4 v5))) (HRJ : Hid (∀ X, Below w0.heap.size w0 X → JW X R 25 (.slice none 0 0) (.slice none 0 0) (.slice none 0 0) (.slice none 0 0) (.int .i64 0))) (hQ : Hid (∀ B1 B2 B3 B4 p1 q1 p2 q2 p3 q3 p4 q4 X, OW4 w0 X (.slice p1 n1 q1) n1 (ints x.xs) (.slice p2 n2 q2) n2 (ints x.ws) (.slice p3 n3 q3) n3 (mce x.L) (.slice p4 n4 q4) n4 (mce x.M) → Q .normal ⟨#[x0, .pointer (some ⟨A, 0, none⟩), .pointer (some ⟨R, 0, none⟩), .slice (some ⟨B1, 0, none⟩) 0 0, .pointer (some ⟨A, 0, none⟩), .slice a1 n1 c1, .slice p1 n1 q1, .slice (some ⟨B2, 0, none⟩) 0 0, .pointer (some ⟨A, 1, none⟩), .slice a2 n2 c2, .slice p2 n2 q2, .slice (some ⟨B3, 0, none⟩) 0 0, .pointer (some ⟨A, 2, none⟩), .slice a3 n3 c3, .slice p3 n3 q3, .slice (some ⟨B4, 0, none⟩) 0 0, .pointer (some ⟨A, 3, none⟩), .slice a4 n4 c4, .slice p4 n4 q4, .pointer (some ⟨A, 4, none⟩), .int .i64 f, .agg #[.slice p1 n1 q1, .slice p2 n2 q2, .slice p3 n3 q3, .slice p4 n4 q4, .int .i64 f]], []⟩ (put5 X R (.slice p1 n1 q1) (.slice p2 n2 q2) (.slice p3 n3 q3) (.slice p4 n4 q4) (.int .i64 f)))) (HO : Hid (OW4 w0 W (.slice none 0 0) 0 [] (.slice none 0 0) 0 [] (.slice none 0 0) 0 [] (.slice none 0 0) 0 [])) :
    wpAnyH Try.prog .any ops16 (NoPanic Q) (fun X => X.cell? ⟨A, 0, none⟩ = some (.slice a1 n1 c1) ∧ X.cell? ⟨A, 1, none⟩ = some (.slice a2 n2 c2) ∧ X.cell? ⟨A, 2, none⟩ = some (.slice a3 n3 c3) ∧ X.cell? ⟨A, 3, none⟩ = some (.slice a4 n4 c4) ∧ X.cell? ⟨A, 4, none⟩ = some (.int .i64 f)) 10 #[false, true, true, false, false, true, true, false, false, true, true, false, false, true, true, false, true, true, false, false] ⟨#[x0, .pointer (some ⟨A, 0, none⟩), .pointer (some ⟨R, 0, none⟩), undef, .pointer (some ⟨A, 0, none⟩), .slice a1 n1 c1, undef, undef, .pointer (some ⟨A, 1, none⟩), .slice a2 n2 c2, undef, undef, .pointer (some ⟨A, 2, none⟩), .slice a3 n3 c3, undef, undef, .pointer (some ⟨A, 3, none⟩), .slice a4 n4 c4, undef, .pointer (some ⟨A, 4, none⟩), .int .i64 f, undef], []⟩ W := by
  unfold ops16
  refine wpAnyH_ready (rs := [0, 4, 8, 12]) (by kernel_rfl) (by simp) ?_
  refine AllReadyH.cons (o := ⟨some 3, _, _, _, _, none⟩) rfl (fun K hK => ?_) (AllReadyH.cons (o := ⟨some 7, _, _, _, _, none⟩) rfl (fun K hK => ?_) (AllReadyH.cons (o := ⟨some 11, _, _, _, _, none⟩) rfl (fun K hK => ?_) (AllReadyH.cons (o := ⟨some 15, _, _, _, _, none⟩) rfl (fun K hK => ?_) (AllReadyH.nil))))
  · have HOn := hide HO.out.alloc1
    go_simp
    refine hK.out _ _ (HSA.out _ HOn.out.b) (fun _ => ?_)
    clear hK K HO
    exact owd_0 HN HL HM HSA HSP HRJ hQ HOn
  · have HOn := hide HO.out.alloc2
    go_simp
    refine hK.out _ _ (HSA.out _ HOn.out.b) (fun _ => ?_)
    clear hK K HO
    exact owd_4 HN HL HM HSA HSP HRJ hQ HOn
  · have HOn := hide HO.out.alloc3
    go_simp
    refine hK.out _ _ (HSA.out _ HOn.out.b) (fun _ => ?_)
    clear hK K HO
    exact owd_8 HN HL HM HSA HSP HRJ hQ HOn
  · have HOn := hide HO.out.alloc4
    go_simp
    refine hK.out _ _ (HSA.out _ HOn.out.b) (fun _ => ?_)
    clear hK K HO
    exact owd_12 HN HL HM HSA HSP HRJ hQ HOn
end Go.Proofs.Ytnjkdfeajlnojaa
namespace Go.Proofs.Ytnjkdfeajlnojaa
open Go.RowKit

theorem OW4.jv {w0 w wf : World} {R : Nat} {a b l m : Value} {x : Jb.J} (h : OW4 w0 w a x.xs.length (ints x.xs) b x.ws.length (ints x.ws) l x.L.length (mce x.L) m x.M.length (mce x.M)) (hR : R < w0.heap.size) (hf : ∀ g, g ≠ R → wf.heap[g]? = w.heap[g]?) : JV wf w0.heap.size a b l m x := by
  have fin : ∀ {e s n : Nat} {v : Value} {xs : List Value}, w.ownsRow w0.heap.size e s v n xs → wf.ownsRow w0.heap.size e s v n xs := fun h => own_keep2 h fun g e _ => hf g (by have := (h.lt g e).1; omega)
  exact { oa := fin h.o1, ob := fin h.o2, ol := fin h.o3, om := fin h.o4, ab := h.d12, al := h.d13, am := h.d14, bl := h.d23, bm := h.d24, lm := h.d34 }
theorem JV.low {w : World} {lo lo' : Nat} {a b l m : Value} {x : Jb.J} (h : JV w lo a b l m x) (hl : lo' ≤ lo) : JV w lo' a b l m x :=
  { h with oa := owns_low h.oa hl, ob := owns_low h.ob hl, ol := owns_low h.ol hl, om := owns_low h.om hl }
set_option maxRecDepth 20000 in
set_option maxHeartbeats 4000000 in
theorem sow_any {aa ab ap am : Option Addr} {ca cb cp cm : Nat} {x : Jb.J} {w : World} (hx : x.xs.length ≤ 1000) (hw : x.ws.length ≤ 1000) (hL : x.L.length ≤ 1000) (hM : x.M.length ≤ 1000) (ra : ARow w aa x.xs) (rb : ARow w ab x.ws) (rp : FRow w ap x.L) (rm : FRow w am x.M) :
    Calls Try.prog 34 #[.agg #[.slice aa x.xs.length ca, .slice ab x.ws.length cb, .slice ap x.L.length cp, .slice am x.M.length cm, .int .i64 x.f]] w fun e w' => ∃ a b l m, e = .returned (.agg #[a, b, l, m, .int .i64 x.f]) ∧ Below w.heap.size w w' ∧ JV w' w.heap.size a b l m x := by
  obtain ⟨W, hW⟩ : ∃ W, W = (w.alloc (.cells #[.slice aa x.xs.length ca, .slice ab x.ws.length cb, .slice ap x.L.length cp, .slice am x.M.length cm, .int .i64 x.f] 25)).alloc (.cells #[.slice none 0 0, .slice none 0 0, .slice none 0 0, .slice none 0 0, .int .i64 0] 25) := ⟨_, rfl⟩
  have hs1 : (w.alloc (.cells #[.slice aa x.xs.length ca, .slice ab x.ws.length cb, .slice ap x.L.length cp, .slice am x.M.length cm, .int .i64 x.f] 25)).heap.size = w.heap.size + 1 := World.size_alloc _ _
  have JK : JW W w.heap.size 25 (.slice aa x.xs.length ca) (.slice ab x.ws.length cb) (.slice ap x.L.length cp) (.slice am x.M.length cm) (.int .i64 x.f) := by rw [hW]; exact (JW.new w _ _ _ _ _ _).alloc _
  have JR : JW W (w.heap.size + 1) 25 (.slice none 0 0) (.slice none 0 0) (.slice none 0 0) (.slice none 0 0) (.int .i64 0) := by rw [hW, ← hs1]; exact JW.new _ _ _ _ _ _ _
  have BW : Below w.heap.size w W := by rw [hW]; exact (below_new w _).trans ((below_new _ _).mono (by omega))
  have hWs : W.heap.size = w.heap.size + 2 := by rw [hW, World.size_alloc, hs1]
  have HN := hide (⟨rfl, rfl, rfl, rfl⟩ : x.xs.length = x.xs.length ∧ x.ws.length = x.ws.length ∧ x.L.length = x.L.length ∧ x.M.length = x.M.length)
  have HLL := hide (⟨hx, hw, hL, hM⟩ : _ ∧ _ ∧ _ ∧ _)
  have HM := hide fun (X : World) (hX : Below W.heap.size W X) => (⟨(ra.below BW).below hX, (rb.below BW).below hX, (rp.below BW).below hX, (rm.below BW).below hX⟩ : ARow X aa x.xs ∧ ARow X ab x.ws ∧ FRow X ap x.L ∧ FRow X am x.M)
  have HSA : Hid (∀ X, Below W.heap.size W X → X.cell? ⟨w.heap.size, 0, none⟩ = some (.slice aa x.xs.length ca) ∧ X.cell? ⟨w.heap.size, 1, none⟩ = some (.slice ab x.ws.length cb) ∧ X.cell? ⟨w.heap.size, 2, none⟩ = some (.slice ap x.L.length cp) ∧ X.cell? ⟨w.heap.size, 3, none⟩ = some (.slice am x.M.length cm) ∧ X.cell? ⟨w.heap.size, 4, none⟩ = some (.int .i64 x.f)) := hide fun X hX => (JK.below hX).cells
  have HSP : Hid (∀ X, Below W.heap.size W X → ∀ v1 v2 v3 v4 v5 : Value, (fun X => X.cell? ⟨w.heap.size, 0, none⟩ = some (.slice aa x.xs.length ca) ∧ X.cell? ⟨w.heap.size, 1, none⟩ = some (.slice ab x.ws.length cb) ∧ X.cell? ⟨w.heap.size, 2, none⟩ = some (.slice ap x.L.length cp) ∧ X.cell? ⟨w.heap.size, 3, none⟩ = some (.slice am x.M.length cm) ∧ X.cell? ⟨w.heap.size, 4, none⟩ = some (.int .i64 x.f)) (put5 X (w.heap.size + 1) v1 v2 v3 v4 v5)) := hide fun X hX v1 v2 v3 v4 v5 => ((JK.below hX).keep (put5_same (by omega))).cells
  have HRJ := hide fun (X : World) (hX : Below W.heap.size W X) => JR.below hX
  have HBW := hide BW
  have HBL : Hid (Below W.heap.size W W.drew) := hide (Below.refl _ _).drew
  have HSZ := hide hWs
  have HW := hide hW.symm
  have HO0 : Hid (OW4 W W.drew (.slice none 0 0) 0 [] (.slice none 0 0) 0 [] (.slice none 0 0) 0 [] (.slice none 0 0) 0 []) := hide { b := HBL.out, o1 := World.ownsRow_nil _ _ _ _, o2 := World.ownsRow_nil _ _ _ _, o3 := World.ownsRow_nil _ _ _ _, o4 := World.ownsRow_nil _ _ _ _, d12 := fun g e => by simp [Value.ownBlock] at e, d13 := fun g e => by simp [Value.ownBlock] at e, d14 := fun g e => by simp [Value.ownBlock] at e, d23 := fun g e => by simp [Value.ownBlock] at e, d24 := fun g e => by simp [Value.ownBlock] at e, d34 := fun g e => by simp [Value.ownBlock] at e }
  clear ra rb rp rm JK JR BW hs1 hW hWs
  go_enter Try.func34, Try.ntmps34
  go_upto_region 1 with fail
  rw [HW.out]
  clear HW
  refine wp_region_noPanic ?_
  refine wp_region_held_drew (S := (fun X => X.cell? ⟨w.heap.size, 0, none⟩ = some (.slice aa x.xs.length ca) ∧ X.cell? ⟨w.heap.size, 1, none⟩ = some (.slice ab x.ws.length cb) ∧ X.cell? ⟨w.heap.size, 2, none⟩ = some (.slice ap x.L.length cp) ∧ X.cell? ⟨w.heap.size, 3, none⟩ = some (.slice am x.M.length cm) ∧ X.cell? ⟨w.heap.size, 4, none⟩ = some (.int .i64 x.f))) (by kernel_rfl) (HSA.out _ HBL.out) (fun hHeld => ?_)
  clear hHeld
  refine wpAnyH_take (i := 1) (oi := ⟨some 4, _, _, _, _, none⟩) (v := .pointer (some ⟨w.heap.size, 0, none⟩)) rfl (by kernel_rfl) (by kernel_rfl) (by kernel_rfl) (fun _ _ _ h => h) (Or.inl ⟨by rfl, fun w' hSw => by obtain ⟨s0, s1, s2, s3, s4⟩ := hSw; go_simp⟩) (HSA.out _ HBL.out) ?_
  simp only [Act.put, List.setIfInBounds_toArray, List.set_cons_zero, List.set_cons_succ]
  refine wpAnyH_take (i := 2) (oi := ⟨some 5, _, _, _, _, none⟩) (v := .slice aa x.xs.length ca) rfl (by kernel_rfl) (by kernel_rfl) (by kernel_rfl) (fun _ _ _ h => h) (Or.inl ⟨by rfl, fun w' hSw => by obtain ⟨s0, s1, s2, s3, s4⟩ := hSw; go_simp⟩) (HSA.out _ HBL.out) ?_
  simp only [Act.put, List.setIfInBounds_toArray, List.set_cons_zero, List.set_cons_succ]
  refine wpAnyH_take (i := 5) (oi := ⟨some 8, _, _, _, _, none⟩) (v := .pointer (some ⟨w.heap.size, 1, none⟩)) rfl (by kernel_rfl) (by kernel_rfl) (by kernel_rfl) (fun _ _ _ h => h) (Or.inl ⟨by rfl, fun w' hSw => by obtain ⟨s0, s1, s2, s3, s4⟩ := hSw; go_simp⟩) (HSA.out _ HBL.out) ?_
  simp only [Act.put, List.setIfInBounds_toArray, List.set_cons_zero, List.set_cons_succ]
  refine wpAnyH_take (i := 6) (oi := ⟨some 9, _, _, _, _, none⟩) (v := .slice ab x.ws.length cb) rfl (by kernel_rfl) (by kernel_rfl) (by kernel_rfl) (fun _ _ _ h => h) (Or.inl ⟨by rfl, fun w' hSw => by obtain ⟨s0, s1, s2, s3, s4⟩ := hSw; go_simp⟩) (HSA.out _ HBL.out) ?_
  simp only [Act.put, List.setIfInBounds_toArray, List.set_cons_zero, List.set_cons_succ]
  refine wpAnyH_take (i := 9) (oi := ⟨some 12, _, _, _, _, none⟩) (v := .pointer (some ⟨w.heap.size, 2, none⟩)) rfl (by kernel_rfl) (by kernel_rfl) (by kernel_rfl) (fun _ _ _ h => h) (Or.inl ⟨by rfl, fun w' hSw => by obtain ⟨s0, s1, s2, s3, s4⟩ := hSw; go_simp⟩) (HSA.out _ HBL.out) ?_
  simp only [Act.put, List.setIfInBounds_toArray, List.set_cons_zero, List.set_cons_succ]
  refine wpAnyH_take (i := 10) (oi := ⟨some 13, _, _, _, _, none⟩) (v := .slice ap x.L.length cp) rfl (by kernel_rfl) (by kernel_rfl) (by kernel_rfl) (fun _ _ _ h => h) (Or.inl ⟨by rfl, fun w' hSw => by obtain ⟨s0, s1, s2, s3, s4⟩ := hSw; go_simp⟩) (HSA.out _ HBL.out) ?_
  simp only [Act.put, List.setIfInBounds_toArray, List.set_cons_zero, List.set_cons_succ]
  refine wpAnyH_take (i := 13) (oi := ⟨some 16, _, _, _, _, none⟩) (v := .pointer (some ⟨w.heap.size, 3, none⟩)) rfl (by kernel_rfl) (by kernel_rfl) (by kernel_rfl) (fun _ _ _ h => h) (Or.inl ⟨by rfl, fun w' hSw => by obtain ⟨s0, s1, s2, s3, s4⟩ := hSw; go_simp⟩) (HSA.out _ HBL.out) ?_
  simp only [Act.put, List.setIfInBounds_toArray, List.set_cons_zero, List.set_cons_succ]
  refine wpAnyH_take (i := 14) (oi := ⟨some 17, _, _, _, _, none⟩) (v := .slice am x.M.length cm) rfl (by kernel_rfl) (by kernel_rfl) (by kernel_rfl) (fun _ _ _ h => h) (Or.inl ⟨by rfl, fun w' hSw => by obtain ⟨s0, s1, s2, s3, s4⟩ := hSw; go_simp⟩) (HSA.out _ HBL.out) ?_
  simp only [Act.put, List.setIfInBounds_toArray, List.set_cons_zero, List.set_cons_succ]
  refine wpAnyH_take (i := 16) (oi := ⟨some 19, _, _, _, _, none⟩) (v := .pointer (some ⟨w.heap.size, 4, none⟩)) rfl (by kernel_rfl) (by kernel_rfl) (by kernel_rfl) (fun _ _ _ h => h) (Or.inl ⟨by rfl, fun w' hSw => by obtain ⟨s0, s1, s2, s3, s4⟩ := hSw; go_simp⟩) (HSA.out _ HBL.out) ?_
  simp only [Act.put, List.setIfInBounds_toArray, List.set_cons_zero, List.set_cons_succ]
  refine wpAnyH_take (i := 17) (oi := ⟨some 20, _, _, _, _, none⟩) (v := .int .i64 x.f) rfl (by kernel_rfl) (by kernel_rfl) (by kernel_rfl) (fun _ _ _ h => h) (Or.inl ⟨by rfl, fun w' hSw => by obtain ⟨s0, s1, s2, s3, s4⟩ := hSw; go_simp⟩) (HSA.out _ HBL.out) ?_
  simp only [Act.put, List.setIfInBounds_toArray, List.set_cons_zero, List.set_cons_succ]
  refine owd_n HN HLL HM HSA HSP HRJ (hide fun B1 B2 B3 B4 p1 q1 p2 q2 p3 q3 p4 q4 X HO => ?_) HO0
  have HV := hide ((HO.jv (wf := put5 X (w.heap.size + 1) (.slice p1 x.xs.length q1) (.slice p2 x.ws.length q2) (.slice p3 x.L.length q3) (.slice p4 x.M.length q4) (.int .i64 x.f)) (by have := HSZ.out; omega) fun g hg => put5_same hg).low HBW.out.size)
  have HBF := hide ((HBW.out.trans (HO.b.mono HBW.out.size)).trans (put5_below (w := X) (B := w.heap.size + 1) (a := .slice p1 x.xs.length q1) (b := .slice p2 x.ws.length q2) (l := .slice p3 x.L.length q3) (m := .slice p4 x.M.length q4) (f := .int .i64 x.f) (Nat.le_succ _)))
  obtain ⟨k0, k1, k2, k3, k4⟩ := ((HRJ.out _ HO.b).put5 (.slice p1 x.xs.length q1) (.slice p2 x.ws.length q2) (.slice p3 x.L.length q3) (.slice p4 x.M.length q4) (.int .i64 x.f)).cells
  generalize put5 X (w.heap.size + 1) (.slice p1 x.xs.length q1) (.slice p2 x.ws.length q2) (.slice p3 x.L.length q3) (.slice p4 x.M.length q4) (.int .i64 x.f) = Wf at *
  clear HO HO0 HBL HRJ HSP HSA HM
  go_wp2_with fail
  exact bodyPost_ret (v := .agg #[.slice p1 x.xs.length q1, .slice p2 x.ws.length q2, .slice p3 x.L.length q3, .slice p4 x.M.length q4, .int .i64 x.f]) (by simp [results, Try.results34, go_sem, k0, k1, k2, k3, k4]) rfl ⟨_, _, _, _, rfl, HBF.out, HV.out⟩
end Go.Proofs.Ytnjkdfeajlnojaa
