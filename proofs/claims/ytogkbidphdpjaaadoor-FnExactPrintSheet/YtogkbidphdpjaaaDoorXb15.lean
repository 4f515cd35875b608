/-
  Lines of a text: what lineText of the program answers.
-/
import Derived.Test.YtogkbidphdpjaaaDoorXa15
import Derived.Deep.DeepCutAuto
namespace Go.Proofs.YtogkbidphdpjaaaDoor
open Go.RowKit

def numB (z : Int) : ByteArray := ⟨(Lib.itoa z).toArray⟩
def gP : ByteArray := ⟨#[103, 111, 111, 100, 32]⟩
def pP : ByteArray := ⟨#[112, 105, 99, 107, 32]⟩
def lineX (p x : ByteArray) (z : Int) : ByteArray := (((p ++ x) ++ ⟨#[32]⟩) ++ numB z) ++ ⟨#[10]⟩
theorem numB_size (z : Int) (h0 : 0 ≤ z) (h1 : z ≤ 1000) : (numB z).size ≤ 21 := by
  have := Lib.itoa_length_le z (by omega) (by omega)
  show (Lib.itoa z).toArray.size ≤ _
  rw [List.size_toArray]; exact this
theorem lineX_size {p x : ByteArray} {z : Int} (hp : p.size ≤ 5) (hx : x.size ≤ 8) (h0 : 0 ≤ z) (h1 : z ≤ 1000) : (lineX p x z).size ≤ 40 := by
  have := numB_size z h0 h1
  unfold lineX
  simp only [ByteArray.size_append]
  show p.size + x.size + 1 + (numB z).size + 1 ≤ 40
  omega
theorem addB (a b : ByteArray) (h : a.size + b.size ≤ 1000000) (w : World) : (Op.stringOp .add a b).run Tryd.prog w = .ok (.string (a ++ b)) w := run_string_add_sum (P := Tryd.prog) (w := w) _ _ (by omega)
/-- The table of the kinds of lines. -/
def kCells : Array Value := #[.string ⟨#[103, 111, 111, 100]⟩, .int .i64 100, .string ⟨#[112, 105, 99, 107]⟩, .int .i64 99]
def KTab (w : World) : Prop := w.var? Tryd.prog "loop.example/g00451/impl.lineKinds" = some kCells
theorem ktab_g : Tryd.prog.globalNamed "loop.example/g00451/impl.lineKinds" = some 0 := by kernel_rfl
theorem var_cell {w : World} {n : String} {g : Nat} {cs : Array Value} (h : w.var? Tryd.prog n = some cs) (hg : Tryd.prog.globalNamed n = some g) (i : Nat) : w.cell? ⟨g, i, none⟩ = cs[i]? := by
  unfold World.var? at h
  rw [hg] at h
  simp only [Option.bind_some] at h
  split at h
  · rename_i c t fr hb
    injection h with h
    subst h
    simp [World.cell?, hb]
  · cases h
theorem KTab.below {w w' : World} (h : KTab w) (hb : Below w.heap.size w w') : KTab w' := by
  have hc : w.cell? ⟨0, 0, none⟩ = some (.string ⟨#[103, 111, 111, 100]⟩) := var_cell h ktab_g 0
  exact var?_below hb ktab_g (some_lt15 hc) h
set_option maxHeartbeats 4000000 in
theorem lt_good {x : ByteArray} {z : Int} {w : World} (hx : x.size ≤ 8) (h0 : 0 ≤ z) (h1 : z ≤ 1000) (HT : Hid (Tab w)) (HK : Hid (KTab w)) :
    Calls Tryd.prog 21 #[.int .i64 0, .string x, .int .i64 z] w fun e w' => e = .returned (.string (lineX gP x z)) ∧ Below w.heap.size w w' := by
  have hz := numB_size z h0 h1
  have s0 : ∀ w, (Op.stringOp .add ⟨#[103, 111, 111, 100]⟩ ⟨#[32]⟩).run Tryd.prog w = .ok (.string gP) w := addB _ _ (by decide)
  have hP : gP.size = 5 := rfl
  obtain ⟨A1, e1⟩ : ∃ A, A = gP ++ x := ⟨_, rfl⟩
  have z1 : A1.size ≤ 13 := by rw [e1, ByteArray.size_append]; omega
  have s1 : ∀ w, (Op.stringOp .add gP x).run Tryd.prog w = .ok (.string A1) w := fun w => by rw [e1]; exact addB _ _ (by omega) w
  obtain ⟨A2, e2⟩ : ∃ A, A = A1 ++ ⟨#[32]⟩ := ⟨_, rfl⟩
  have z2 : A2.size ≤ 14 := by rw [e2, ByteArray.size_append]; show A1.size + 1 ≤ 14; omega
  have s2 : ∀ w, (Op.stringOp .add A1 ⟨#[32]⟩).run Tryd.prog w = .ok (.string A2) w := fun w => by rw [e2]; exact addB _ _ (by show A1.size + 1 ≤ _; omega) w
  obtain ⟨Z, eZ⟩ : ∃ A, A = numB z := ⟨_, rfl⟩
  rw [← eZ] at hz
  obtain ⟨A3, e3⟩ : ∃ A, A = A2 ++ Z := ⟨_, rfl⟩
  have z3 : A3.size ≤ 35 := by rw [e3, ByteArray.size_append]; omega
  have s3 : ∀ w, (Op.stringOp .add A2 Z).run Tryd.prog w = .ok (.string A3) w := fun w => by rw [e3]; exact addB _ _ (by omega) w
  obtain ⟨A4, e4⟩ : ∃ A, A = A3 ++ ⟨#[10]⟩ := ⟨_, rfl⟩
  have s4 : ∀ w, (Op.stringOp .add A3 ⟨#[10]⟩).run Tryd.prog w = .ok (.string A4) w := fun w => by rw [e4]; exact addB _ _ (by show A3.size + 1 ≤ _; omega) w
  have HE : Hid (A4 = lineX gP x z) := hide (by rw [e4, e3, e2, e1, eZ]; rfl)
  have HI : Hid (∀ W, Tab W → Calls Tryd.prog 40 #[.int .i64 z] W fun e w' => e = .returned (.string Z) ∧ Below W.heap.size W w') := hide fun W hT => by rw [eZ]; exact itoa_any z W (by omega) (by omega) hT
  have HC := hide fun (W : World) (hb : Below w.heap.size w W) => (show W.cell? ⟨0, 0, none⟩ = some (.string ⟨#[103, 111, 111, 100]⟩) from var_cell (HK.out.below hb) ktab_g 0)
  clear e1 e2 e3 e4 eZ z1 z2 z3 hz hP hx
  generalize gP = PP at *
  have c0 := HC.out _ (Below.refl _ _).drew
  have hd : Below w.heap.size w w.drew := (Below.refl _ _).drew
  go_enter Tryd.func21, Tryd.ntmps21
  go_upto_region 1 with fail
  go_region_held3 (fun w' => w'.cell? ⟨0, 0, none⟩ = some (.string ⟨#[103, 111, 111, 100]⟩) ∧ Below w.heap.size w w')
    (first | exact ⟨c0, hd⟩ | assumption | fail)
    (first
    | (go_at_call 40; refine (HI.out _ (HT.out.below hd)).mono ?_; rintro e w1 ⟨rfl, hb1⟩; have hB1 := hd.trans (hb1.mono hd.size); have hS1 := (⟨HC.out _ hB1, hB1⟩ : _ ∧ _))
    | fail)
  go_wp2_with fail
  go_ret
  exact ⟨by rw [HE.out]; rfl, hB1⟩
set_option maxHeartbeats 4000000 in
theorem lt_pick {x : ByteArray} {z : Int} {w : World} (hx : x.size ≤ 8) (h0 : 0 ≤ z) (h1 : z ≤ 1000) (HT : Hid (Tab w)) (HK : Hid (KTab w)) :
    Calls Tryd.prog 21 #[.int .i64 1, .string x, .int .i64 z] w fun e w' => e = .returned (.string (lineX pP x z)) ∧ Below w.heap.size w w' := by
  have hz := numB_size z h0 h1
  have s0 : ∀ w, (Op.stringOp .add ⟨#[112, 105, 99, 107]⟩ ⟨#[32]⟩).run Tryd.prog w = .ok (.string pP) w := addB _ _ (by decide)
  have hP : pP.size = 5 := rfl
  obtain ⟨A1, e1⟩ : ∃ A, A = pP ++ x := ⟨_, rfl⟩
  have z1 : A1.size ≤ 13 := by rw [e1, ByteArray.size_append]; omega
  have s1 : ∀ w, (Op.stringOp .add pP x).run Tryd.prog w = .ok (.string A1) w := fun w => by rw [e1]; exact addB _ _ (by omega) w
  obtain ⟨A2, e2⟩ : ∃ A, A = A1 ++ ⟨#[32]⟩ := ⟨_, rfl⟩
  have z2 : A2.size ≤ 14 := by rw [e2, ByteArray.size_append]; show A1.size + 1 ≤ 14; omega
  have s2 : ∀ w, (Op.stringOp .add A1 ⟨#[32]⟩).run Tryd.prog w = .ok (.string A2) w := fun w => by rw [e2]; exact addB _ _ (by show A1.size + 1 ≤ _; omega) w
  obtain ⟨Z, eZ⟩ : ∃ A, A = numB z := ⟨_, rfl⟩
  rw [← eZ] at hz
  obtain ⟨A3, e3⟩ : ∃ A, A = A2 ++ Z := ⟨_, rfl⟩
  have z3 : A3.size ≤ 35 := by rw [e3, ByteArray.size_append]; omega
  have s3 : ∀ w, (Op.stringOp .add A2 Z).run Tryd.prog w = .ok (.string A3) w := fun w => by rw [e3]; exact addB _ _ (by omega) w
  obtain ⟨A4, e4⟩ : ∃ A, A = A3 ++ ⟨#[10]⟩ := ⟨_, rfl⟩
  have s4 : ∀ w, (Op.stringOp .add A3 ⟨#[10]⟩).run Tryd.prog w = .ok (.string A4) w := fun w => by rw [e4]; exact addB _ _ (by show A3.size + 1 ≤ _; omega) w
  have HE : Hid (A4 = lineX pP x z) := hide (by rw [e4, e3, e2, e1, eZ]; rfl)
  have HI : Hid (∀ W, Tab W → Calls Tryd.prog 40 #[.int .i64 z] W fun e w' => e = .returned (.string Z) ∧ Below W.heap.size W w') := hide fun W hT => by rw [eZ]; exact itoa_any z W (by omega) (by omega) hT
  have HC := hide fun (W : World) (hb : Below w.heap.size w W) => (show W.cell? ⟨0, 2, none⟩ = some (.string ⟨#[112, 105, 99, 107]⟩) from var_cell (HK.out.below hb) ktab_g 2)
  clear e1 e2 e3 e4 eZ z1 z2 z3 hz hP hx
  generalize pP = PP at *
  have c0 := HC.out _ (Below.refl _ _).drew
  have hd : Below w.heap.size w w.drew := (Below.refl _ _).drew
  go_enter Tryd.func21, Tryd.ntmps21
  go_upto_region 1 with fail
  go_region_held3 (fun w' => w'.cell? ⟨0, 2, none⟩ = some (.string ⟨#[112, 105, 99, 107]⟩) ∧ Below w.heap.size w w')
    (first | exact ⟨c0, hd⟩ | assumption | fail)
    (first
    | (go_at_call 40; refine (HI.out _ (HT.out.below hd)).mono ?_; rintro e w1 ⟨rfl, hb1⟩; have hB1 := hd.trans (hb1.mono hd.size); have hS1 := (⟨HC.out _ hB1, hB1⟩ : _ ∧ _))
    | fail)
  go_wp2_with fail
  go_ret
  exact ⟨by rw [HE.out]; rfl, hB1⟩
end Go.Proofs.YtogkbidphdpjaaaDoor
