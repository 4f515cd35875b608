/-
  What takeSheet of the program does to a sheet that is made.
-/
import Derived.Test.YtogkbidphdpjaaaVe15
import Derived.BigQuiet
import Derived.Shelf.Abstract
namespace Go.Proofs.Ytogkbidphdpjaaa
open Go.RowKit

/-- What comes of taking a sheet. -/
def TSR (w w' : World) (J : Nat) (r : Option (List Gd × List (Int × Int))) (b : Bool) : Prop :=
  Below J w w' ∧ ((b = false ∧ r = none) ∨ (b = true ∧ ∃ st v v', r = some st ∧ st.1.length ≤ 12 ∧ st.2.length ≤ 80 ∧ JS w' J v v' st.1 st.2))
/-- A region that draws its order, over a class of worlds: one operation. -/
theorem q_callC15 {P : Program} {C : World → Prop} {K : Act → Prop} {a : Act} {o : Oper} {f : FuncId} {xs : Array Operand} {ts : Array TypeId} {args : Array Value} {v : Value} (ho : o.op = .call { callee := .value (.func f), args := xs, argTypes := ts }) (ha : xs.map a.eval = args) (hf : ∀ args w, (callFunc f args).run P w = .ok (.enter f args) w)
    (h : ∀ w, C w → Calls P f args w fun e w' => e = .returned v ∧ C w') (hk : K (a.put o.dst v)) : o.quiet P a C K :=
  ⟨v, fun w hw => by
    have hr : (execOp a.eval o).run P w = .ok (.enter f args) w := by
      unfold execOp
      simp [ho, resolve, ha, invoke, Deferred.ofValue, Act.eval, hf]
    unfold Oper.quietAt; rw [hr]; exact ⟨rfl, h w hw⟩, hk⟩
theorem q_good15 {C : World → Prop} {K : Act → Prop} {a : Act} {o : Oper} {s : Operand} {b : Nat} {x : ByteArray} {y : Int} (ho : o.op = .load 68 s) (hs : a.eval s = .pointer (some ⟨b, 0, none⟩)) (h : ∀ V, C V → V.cell? ⟨b, 0, none⟩ = some (.string x) ∧ V.cell? ⟨b, 1, none⟩ = some (.int .i64 y)) (hk : K (a.put o.dst (.agg #[.string x, .int .i64 y]))) : o.quiet Try.prog a C K :=
  ⟨_, fun w hw => by
    obtain ⟨h1, h2⟩ := h w hw
    have hr : (execOp a.eval o).run Try.prog w = .ok (.value (.agg #[.string x, .int .i64 y])) w := by
      unfold execOp
      simp only [ho, hs]
      simp [go_sem, h1, h2]
    unfold Oper.quietAt; rw [hr]; exact ⟨rfl, rfl⟩, hk⟩
theorem q_goods15 {C : World → Prop} {K : Act → Prop} {a : Act} {o : Oper} {s : Operand} {b : Nat} {v : Value} (ho : o.op = .load 28 s) (hs : a.eval s = .pointer (some ⟨b, 0, none⟩)) (h : ∀ V, C V → V.cell? ⟨b, 0, none⟩ = some v) (hk : K (a.put o.dst v)) : o.quiet Try.prog a C K :=
  ⟨_, fun w hw => by
    have h1 := h w hw
    have hr : (execOp a.eval o).run Try.prog w = .ok (.value v) w := by
      unfold execOp
      simp only [ho, hs]
      simp [go_sem, h1]
    unfold Oper.quietAt; rw [hr]; exact ⟨rfl, rfl⟩, hk⟩
/-- Where a good and a list of goods lie. -/
def CC15 (W : World) (J G : Nat) (v : Value) (x : ByteArray) (z : Int) (V : World) : Prop := V.cell? ⟨J, 0, none⟩ = some v ∧ V.cell? ⟨G, 0, none⟩ = some (.string x) ∧ V.cell? ⟨G, 1, none⟩ = some (.int .i64 z) ∧ Below W.heap.size W V
theorem CC15.below {W V V' : World} {J G : Nat} {v : Value} {x : ByteArray} {z : Int} (h : CC15 W J G v x z V) (hb : Below V.heap.size V V') : CC15 W J G v x z V' := by
  obtain ⟨h1, h2, h3, h4⟩ := h
  exact ⟨(hb.cell (p := ⟨J, 0, none⟩) (World.block_lt_of_cell? V _ h1)).trans h1, (hb.cell (p := ⟨G, 0, none⟩) (World.block_lt_of_cell? V _ h2)).trans h2, (hb.cell (p := ⟨G, 1, none⟩) (World.block_lt_of_cell? V _ h3)).trans h3, h4.trans (hb.mono h4.size)⟩
theorem GJ.pbox {w w' : World} {J V : Nat} {v u0 u1 : Value} (h : GJ w w' J v) (p : PBox w V u0 u1) (h1 : V ≠ J) (h2 : v.ownBlock ≠ some V) : PBox w' V u0 u1 := by
  have hb := h.block V p.2.2 h1 (fun e => h2 e.symm)
  exact ⟨(World.cell?_of_block (w := w) (a := ⟨V, 0, none⟩) hb).trans p.1, (World.cell?_of_block (w := w) (a := ⟨V, 1, none⟩) hb).trans p.2.1, Nat.lt_of_lt_of_le p.2.2 h.size⟩
theorem putI_some {o o' : List Gd} {g : Gd} (h : putI o g = some o') (hl : o.length ≤ 12) : (contB o g = true ∧ o' = o) ∨ (contB o g = false ∧ hasB o g.1 = false ∧ o.length < 12 ∧ o' = o ++ [g]) := by
  unfold putI at h
  cases h1 : contB o g
  · rw [h1, if_neg (by decide)] at h
    cases h2 : hasB o g.1
    · rw [h2, if_neg (by decide)] at h
      by_cases h3 : o.length = 12
      · rw [if_pos h3] at h; cases h
      · rw [if_neg h3] at h; cases h
        exact Or.inr ⟨rfl, rfl, by omega, rfl⟩
    · rw [h2, if_pos rfl] at h; cases h
  · rw [h1, if_pos rfl] at h; cases h
    exact Or.inl ⟨rfl, rfl⟩
theorem putI_none {o : List Gd} {g : Gd} (h : putI o g = none) : contB o g = false ∧ (hasB o g.1 = true ∨ (hasB o g.1 = false ∧ o.length = 12)) := by
  unfold putI at h
  cases h1 : contB o g
  · rw [h1, if_neg (by decide)] at h
    cases h2 : hasB o g.1
    · rw [h2, if_neg (by decide)] at h
      by_cases h3 : o.length = 12
      · exact ⟨rfl, Or.inr ⟨rfl, h3⟩⟩
      · rw [if_neg h3] at h; cases h
    · exact ⟨rfl, Or.inl rfl⟩
  · rw [h1, if_pos rfl] at h; cases h
theorem pickI_none {o : List Gd} {l : List (Int × Int)} {x : ByteArray} {m : Int} (h : pickI o l x m = none) : hasB o x = false ∨ (hasB o x = true ∧ l.length = 80) := by
  unfold pickI at h
  cases h1 : hasB o x
  · exact Or.inl rfl
  · rw [h1, if_pos rfl] at h
    by_cases h2 : l.length = 80
    · exact Or.inr ⟨rfl, h2⟩
    · rw [if_neg h2] at h; cases h
theorem pickI_some {o : List Gd} {l l' : List (Int × Int)} {x : ByteArray} {m : Int} (h : pickI o l x m = some l') (hl : l.length ≤ 80) : hasB o x = true ∧ l.length < 80 ∧ l' = l ++ [(fndI o x, m)] := by
  unfold pickI at h
  cases h1 : hasB o x
  · rw [h1, if_neg (by decide)] at h; cases h
  · rw [h1, if_pos rfl] at h
    by_cases h2 : l.length = 80
    · rw [if_pos h2] at h; cases h
    · rw [if_neg h2] at h; cases h; exact ⟨rfl, by omega, rfl⟩
/-- What takeSheet answers. -/
def TSE (w : World) (J : Nat) (r : Option (List Gd × List (Int × Int))) (e : Ending) (w' : World) : Prop := ∃ b, e = .returned (.bool b) ∧ TSR w w' J r b
set_option maxHeartbeats 2000000 in
theorem ts_no {J : Nat} {v v' : Value} {gs0 gs : List Gd} {ls0 ls : List (Int × Int)} {a a' : Option Addr} {n c n' c' : Nat} {w : World} (h : Hid (JS w J v v' gs0 ls0)) (HN : Hid (gs.length = n)) (hc : n ≤ c) (HS : Hid (Short gs)) (HL : Hid (ls.length = n'))
    (HA : Hid (∀ W, Below J w W → GRow W a gs)) (HA' : Hid (∀ W, Below J w W → LRow W a' ls)) (hg : Hid (sheetB gs ls = false)) :
    Calls Try.prog 43 #[.pointer (some ⟨J, 0, none⟩), .agg #[.slice a n c, .slice a' n' c']] w fun e w' => TSE w J (sheetI (gs0, ls0) gs ls) e w' := by
  have HNO : Hid (sheetI (gs0, ls0) gs ls = none) := hide (by unfold sheetI; rw [hg.out]; rfl)
  have b1 := below_new w (.cells #[.slice a n c, .slice a' n' c'] 31)
  have hJ := h.out.lt
  have HR := hide (HA.out _ (b1.mono (by omega)))
  have HR' := hide (HA'.out _ (b1.mono (by omega)))
  have HB := hide b1
  clear b1
  go_enter Try.func43, Try.ntmps43
  go_wp2_with ((go_at_call 10; refine (gsh_hid hg HN hc HS HR HL HR').mono ?_; rintro e w1 ⟨rfl, hb1⟩; have HB1 := hide (HB.out.trans (hb1.mono HB.out.size)); clear hb1))
  go_ret
  exact ⟨false, rfl, HB1.out.mono (by omega), Or.inl ⟨rfl, HNO.out⟩⟩
end Go.Proofs.Ytogkbidphdpjaaa
