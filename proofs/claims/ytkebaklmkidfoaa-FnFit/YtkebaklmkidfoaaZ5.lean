/-
  In one: Wo1, Wo, Ws9, Hc, Ja, Jb.
-/
import Derived.Test.YtkebaklmkidfoaaZ4
import Derived.Test.YtkebaklmkidfoaaZ1
namespace Go.Proofs.Ytkebaklmkidfoaa
open Go.RowKit

/-- The operations of the region that makes the fitting. -/
def ops4 : Array Oper :=
      #[{ dst := some 14, op := Op.move (Operand.tmp 0), type := 23, pos := "l9_assign.go:28", after := #[],
          guard := none },
        { dst := some 15, op := Op.buildSlice 25 1 #[(0, Operand.const (Value.int IntKind.i64 (-1)))], type := 25,
          pos := "l9_assign.go:28", after := #[], guard := none },
        { dst := some 16, op := Op.move (Operand.tmp 5), type := 3, pos := "l9_assign.go:28", after := #[],
          guard := none },
        { dst := some 17,
          op :=
            Op.call
              { callee := Callee.value (Operand.func 26), args := #[Operand.tmp 15, Operand.tmp 16],
                argTypes := #[25, 3] },
          type := 25, pos := "l9_assign.go:30",
          after := #[{ on := 1, ground := Ground.data }, { on := 2, ground := Ground.data }], guard := none },
        { dst := some 18, op := Op.move (Operand.tmp 5), type := 3, pos := "l9_assign.go:28", after := #[],
          guard := none },
        { dst := some 19, op := Op.makeSlice 25 (Operand.tmp 18) (Operand.tmp 18), type := 25, pos := "l9_assign.go:28",
          after := #[{ on := 4, ground := Ground.data }, { on := 4, ground := Ground.data }], guard := none },
        { dst := some 20, op := Op.move (Operand.tmp 5), type := 3, pos := "l9_assign.go:28", after := #[],
          guard := none },
        { dst := some 21, op := Op.makeSlice 25 (Operand.tmp 20) (Operand.tmp 20), type := 25, pos := "l9_assign.go:28",
          after := #[{ on := 6, ground := Ground.data }, { on := 6, ground := Ground.data }], guard := none },
        { dst := some 22, op := Op.build 27 #[(0, Operand.tmp 19), (1, Operand.tmp 21)], type := 27,
          pos := "l9_assign.go:28", after := #[{ on := 5, ground := Ground.data }, { on := 7, ground := Ground.data }],
          guard := none },
        { dst := some 23, op := Op.build 52 #[(0, Operand.tmp 14), (1, Operand.tmp 17), (2, Operand.tmp 22)],
          type := 52, pos := "l9_assign.go:28",
          after :=
            #[{ on := 0, ground := Ground.data }, { on := 3, ground := Ground.data },
              { on := 8, ground := Ground.data }],
          guard := none },
        { dst := some 6, op := Op.alloc 52, type := 0, pos := "l9_assign.go:28", after := #[], guard := none },
        { dst := none, op := Op.store 52 (Operand.tmp 6) (Operand.tmp 23), type := 0, pos := "l9_assign.go:28",
          after :=
            #[{ on := 10, ground := Ground.data }, { on := 9, ground := Ground.data },
              { on := 3, ground := Ground.chain }, { on := 0, ground := Ground.phase },
              { on := 1, ground := Ground.phase }, { on := 2, ground := Ground.phase },
              { on := 3, ground := Ground.phase }, { on := 4, ground := Ground.phase },
              { on := 5, ground := Ground.phase }, { on := 6, ground := Ground.phase },
              { on := 7, ground := Ground.phase }, { on := 8, ground := Ground.phase },
              { on := 9, ground := Ground.phase }, { on := 10, ground := Ground.phase }],
          guard := none }]
set_option maxRecDepth 20000 in
set_option maxHeartbeats 4000000 in
theorem cfd_1_3_5_7_10 {Q : Exit → Act → World → Prop} {w0 W : World} {e : Option Addr} {n ce R B FT PU PV FB : Nat} (_n10 : n ≤ 10) (hQ : Hid (∀ FB FT PU PV B X, CfI w0 X FB e n ce FT PU PV (List.replicate n (-1)) (List.replicate n 0) (List.replicate n 0) → Q .normal ⟨#[.slice e n ce, undef, .slice none 0 0, .pointer (some ⟨R, 0, none⟩), .bool false, .int .i64 (n : Int), .pointer (some ⟨FB, 0, none⟩), undef, .slice e n ce, .bool true, .bool false, undef, .slice e n ce, .int .i64 (n : Int), .slice e n ce, .slice (some ⟨B, 0, none⟩) 1 1, .int .i64 (n : Int), .slice (some ⟨FT, 0, none⟩) n n, .int .i64 (n : Int), .slice (some ⟨PU, 0, none⟩) n n, .int .i64 (n : Int), .slice (some ⟨PV, 0, none⟩) n n, .agg #[.slice (some ⟨PU, 0, none⟩) n n, .slice (some ⟨PV, 0, none⟩) n n], .agg (fv e n ce FT PU PV), undef, undef, undef, undef, undef, undef, undef, undef, undef, undef, undef, undef, undef], []⟩ X)) (_HBB : Hid (W.cell? ⟨B, 0, none⟩ = some (.int .i64 (-1)) ∧ B < W.heap.size)) (HFT : Hid (W.ownsRow w0.heap.size 3 1 (.slice (some ⟨FT, 0, none⟩) n n) n (ints (List.replicate n (-1))))) (HPU : Hid (W.ownsRow w0.heap.size 3 1 (.slice (some ⟨PU, 0, none⟩) n n) n (ints (List.replicate n 0)))) (HPV : Hid (W.ownsRow w0.heap.size 3 1 (.slice (some ⟨PV, 0, none⟩) n n) n (ints (List.replicate n 0)))) (HFB : Hid (Z4 W FB ∧ w0.heap.size ≤ FB)) (HBL : Hid (Below w0.heap.size w0 W)) (n3_5 : FT ≠ PU) (n3_7 : FT ≠ PV) (n3_10 : FT ≠ FB) (n5_7 : PU ≠ PV) (n5_10 : PU ≠ FB) (n7_10 : PV ≠ FB) :
    wpAnyH Try.prog .any ops4 (NoPanic Q) (fun _ => True) 1 #[true, true, true, true, true, true, true, true, true, true, true, false] ⟨#[.slice e n ce, undef, .slice none 0 0, .pointer (some ⟨R, 0, none⟩), .bool false, .int .i64 (n : Int), .pointer (some ⟨FB, 0, none⟩), undef, .slice e n ce, .bool true, .bool false, undef, .slice e n ce, .int .i64 (n : Int), .slice e n ce, .slice (some ⟨B, 0, none⟩) 1 1, .int .i64 (n : Int), .slice (some ⟨FT, 0, none⟩) n n, .int .i64 (n : Int), .slice (some ⟨PU, 0, none⟩) n n, .int .i64 (n : Int), .slice (some ⟨PV, 0, none⟩) n n, .agg #[.slice (some ⟨PU, 0, none⟩) n n, .slice (some ⟨PV, 0, none⟩) n n], .agg (fv e n ce FT PU PV), undef, undef, undef, undef, undef, undef, undef, undef, undef, undef, undef, undef, undef], []⟩ W := by
  obtain ⟨z0, z1, z2, z3, y0, y1, y2, y3, z9⟩ := HFB.out.1
  have HCF := hide (CfI.make (e := e) (ce := ce) HFB.out.1 HFT.out HPU.out HPV.out HBL.out n3_5 n3_7 n5_7 (Ne.symm n3_10) (Ne.symm n5_10) (Ne.symm n7_10) HFB.out.2)
  clear HFB HFT HPU HPV HBL
  unfold ops4
  refine wpAnyH_ready (rs := [11]) (by kernel_rfl) (by simp) ?_
  refine AllReadyH.cons (o := ⟨none, _, _, _, _, none⟩) rfl (fun K hK => ?_) AllReadyH.nil
  unfold fv at *
  go_simp
  refine hK.out _ _ trivial (fun _ => ?_)
  clear hK K z0 z1 z2 z3 y0 y1 y2 y3
  refine wpAnyH_done (by kernel_rfl) ?_ _
  exact NoPanic.normal (hQ.out FB FT PU PV B _ HCF.out)
set_option maxRecDepth 20000 in
set_option maxHeartbeats 4000000 in
theorem cfd_1_5_7_10 {Q : Exit → Act → World → Prop} {w0 W : World} {e : Option Addr} {n ce R B PU PV FB : Nat} (n10 : n ≤ 10) (hQ : Hid (∀ FB FT PU PV B X, CfI w0 X FB e n ce FT PU PV (List.replicate n (-1)) (List.replicate n 0) (List.replicate n 0) → Q .normal ⟨#[.slice e n ce, undef, .slice none 0 0, .pointer (some ⟨R, 0, none⟩), .bool false, .int .i64 (n : Int), .pointer (some ⟨FB, 0, none⟩), undef, .slice e n ce, .bool true, .bool false, undef, .slice e n ce, .int .i64 (n : Int), .slice e n ce, .slice (some ⟨B, 0, none⟩) 1 1, .int .i64 (n : Int), .slice (some ⟨FT, 0, none⟩) n n, .int .i64 (n : Int), .slice (some ⟨PU, 0, none⟩) n n, .int .i64 (n : Int), .slice (some ⟨PV, 0, none⟩) n n, .agg #[.slice (some ⟨PU, 0, none⟩) n n, .slice (some ⟨PV, 0, none⟩) n n], .agg (fv e n ce FT PU PV), undef, undef, undef, undef, undef, undef, undef, undef, undef, undef, undef, undef, undef], []⟩ X)) (HBB : Hid (W.cell? ⟨B, 0, none⟩ = some (.int .i64 (-1)) ∧ B < W.heap.size)) (HPU : Hid (W.ownsRow w0.heap.size 3 1 (.slice (some ⟨PU, 0, none⟩) n n) n (ints (List.replicate n 0)))) (HPV : Hid (W.ownsRow w0.heap.size 3 1 (.slice (some ⟨PV, 0, none⟩) n n) n (ints (List.replicate n 0)))) (HFB : Hid (Z4 W FB ∧ w0.heap.size ≤ FB)) (HBL : Hid (Below w0.heap.size w0 W)) (n5_7 : PU ≠ PV) (n5_10 : PU ≠ FB) (n7_10 : PV ≠ FB) :
    wpAnyH Try.prog .any ops4 (NoPanic Q) (fun _ => True) 3 #[true, true, true, false, true, true, true, true, true, false, true, false] ⟨#[.slice e n ce, undef, .slice none 0 0, .pointer (some ⟨R, 0, none⟩), .bool false, .int .i64 (n : Int), .pointer (some ⟨FB, 0, none⟩), undef, .slice e n ce, .bool true, .bool false, undef, .slice e n ce, .int .i64 (n : Int), .slice e n ce, .slice (some ⟨B, 0, none⟩) 1 1, .int .i64 (n : Int), undef, .int .i64 (n : Int), .slice (some ⟨PU, 0, none⟩) n n, .int .i64 (n : Int), .slice (some ⟨PV, 0, none⟩) n n, .agg #[.slice (some ⟨PU, 0, none⟩) n n, .slice (some ⟨PV, 0, none⟩) n n], undef, undef, undef, undef, undef, undef, undef, undef, undef, undef, undef, undef, undef, undef], []⟩ W := by
  have hmk := makeI_run n (by omega)
  unfold ops4
  refine wpAnyH_ready (rs := [3]) (by kernel_rfl) (by simp) ?_
  refine AllReadyH.cons (o := ⟨some 17, _, _, _, _, none⟩) rfl (fun K hK => ?_) (AllReadyH.nil)
  · have l1 := HBB.out.2
    have l5 := (HPU.out.lt PU rfl).2
    have l7 := (HPV.out.lt PV rfl).2
    have l10 := HFB.out.1.lt
    have hsz := HBL.out.size
    go_simp
    refine (rp_any n10 HBB.out.1 HBB.out.2).mono ?_
    rintro e' x1 ⟨rfl, hb', own'⟩
    have HBBn := hide (cm1_below HBB.out hb')
    have HPUn := hide (g_own HPU.out hb')
    have HPVn := hide (g_own HPV.out hb')
    have HFBn := hide ((⟨HFB.out.1.below hb', HFB.out.2⟩ : _ ∧ _))
    have HBLn := hide (HBL.out.trans (hb'.mono HBL.out.size))
    have HFTn : Hid (x1.ownsRow w0.heap.size 3 1 (.slice (some ⟨W.heap.size, 0, none⟩) n n) n (ints (List.replicate n (-1)))) := hide (own_low9 own' HBL.out.size)
    refine hK.out _ _ trivial (fun _ => ?_)
    clear hK K hb' own'
    clear HBL HBB HPU HPV HFB hmk
    simp only [List.setIfInBounds_toArray, List.set_cons_zero, List.set_cons_succ]
    refine wpAnyH_take (i := 9) (oi := ⟨some 23, _, _, _, _, none⟩) (v := .agg (fv e n ce W.heap.size PU PV)) rfl (by kernel_rfl) (by kernel_rfl) (by kernel_rfl) (fun _ _ _ h => h) (Or.inl ⟨by rfl, fun w' hSw => by clear hSw; unfold fv; go_simp⟩) trivial ?_
    simp only [Act.put, List.setIfInBounds_toArray, List.set_cons_zero, List.set_cons_succ]
    exact cfd_1_3_5_7_10 n10 hQ HBBn HFTn HPUn HPVn HFBn HBLn (by omega) (by omega) (by omega) n5_7 n5_10 n7_10
set_option maxRecDepth 20000 in
set_option maxHeartbeats 4000000 in
theorem cfd_1_3_5_7 {Q : Exit → Act → World → Prop} {w0 W : World} {e : Option Addr} {n ce R B FT PU PV : Nat} (n10 : n ≤ 10) (hQ : Hid (∀ FB FT PU PV B X, CfI w0 X FB e n ce FT PU PV (List.replicate n (-1)) (List.replicate n 0) (List.replicate n 0) → Q .normal ⟨#[.slice e n ce, undef, .slice none 0 0, .pointer (some ⟨R, 0, none⟩), .bool false, .int .i64 (n : Int), .pointer (some ⟨FB, 0, none⟩), undef, .slice e n ce, .bool true, .bool false, undef, .slice e n ce, .int .i64 (n : Int), .slice e n ce, .slice (some ⟨B, 0, none⟩) 1 1, .int .i64 (n : Int), .slice (some ⟨FT, 0, none⟩) n n, .int .i64 (n : Int), .slice (some ⟨PU, 0, none⟩) n n, .int .i64 (n : Int), .slice (some ⟨PV, 0, none⟩) n n, .agg #[.slice (some ⟨PU, 0, none⟩) n n, .slice (some ⟨PV, 0, none⟩) n n], .agg (fv e n ce FT PU PV), undef, undef, undef, undef, undef, undef, undef, undef, undef, undef, undef, undef, undef], []⟩ X)) (HBB : Hid (W.cell? ⟨B, 0, none⟩ = some (.int .i64 (-1)) ∧ B < W.heap.size)) (HFT : Hid (W.ownsRow w0.heap.size 3 1 (.slice (some ⟨FT, 0, none⟩) n n) n (ints (List.replicate n (-1))))) (HPU : Hid (W.ownsRow w0.heap.size 3 1 (.slice (some ⟨PU, 0, none⟩) n n) n (ints (List.replicate n 0)))) (HPV : Hid (W.ownsRow w0.heap.size 3 1 (.slice (some ⟨PV, 0, none⟩) n n) n (ints (List.replicate n 0)))) (HBL : Hid (Below w0.heap.size w0 W)) (n3_5 : FT ≠ PU) (n3_7 : FT ≠ PV) (n5_7 : PU ≠ PV) :
    wpAnyH Try.prog .any ops4 (NoPanic Q) (fun _ => True) 2 #[true, true, true, true, true, true, true, true, true, true, false, false] ⟨#[.slice e n ce, undef, .slice none 0 0, .pointer (some ⟨R, 0, none⟩), .bool false, .int .i64 (n : Int), undef, undef, .slice e n ce, .bool true, .bool false, undef, .slice e n ce, .int .i64 (n : Int), .slice e n ce, .slice (some ⟨B, 0, none⟩) 1 1, .int .i64 (n : Int), .slice (some ⟨FT, 0, none⟩) n n, .int .i64 (n : Int), .slice (some ⟨PU, 0, none⟩) n n, .int .i64 (n : Int), .slice (some ⟨PV, 0, none⟩) n n, .agg #[.slice (some ⟨PU, 0, none⟩) n n, .slice (some ⟨PV, 0, none⟩) n n], .agg (fv e n ce FT PU PV), undef, undef, undef, undef, undef, undef, undef, undef, undef, undef, undef, undef, undef], []⟩ W := by
  have hmk := makeI_run n (by omega)
  unfold ops4
  refine wpAnyH_ready (rs := [10]) (by kernel_rfl) (by simp) ?_
  refine AllReadyH.cons (o := ⟨some 6, _, _, _, _, none⟩) rfl (fun K hK => ?_) (AllReadyH.nil)
  · have l1 := HBB.out.2
    have l3 := (HFT.out.lt FT rfl).2
    have l5 := (HPU.out.lt PU rfl).2
    have l7 := (HPV.out.lt PV rfl).2
    have hsz := HBL.out.size
    have hb' := below_new W (.cells #[.slice none 0 0, .slice none 0 0, .slice none 0 0, .slice none 0 0] 52)
    have HBBn := hide (cm1_below HBB.out hb')
    have HFTn := hide (g_own HFT.out hb')
    have HPUn := hide (g_own HPU.out hb')
    have HPVn := hide (g_own HPV.out hb')
    have HBLn := hide (HBL.out.trans (hb'.mono HBL.out.size))
    have HFBn := hide (⟨Z4.new W 52, hsz⟩ : _ ∧ _)
    go_simp
    refine hK.out _ _ trivial (fun _ => ?_)
    clear hK K hb'
    clear HBL HBB HFT HPU HPV hmk
    exact cfd_1_3_5_7_10 n10 hQ HBBn HFTn HPUn HPVn HFBn HBLn n3_5 n3_7 (by omega) n5_7 (by omega) (by omega)
set_option maxRecDepth 20000 in
set_option maxHeartbeats 4000000 in
theorem cfd_1_3_5_10 {Q : Exit → Act → World → Prop} {w0 W : World} {e : Option Addr} {n ce R B FT PU FB : Nat} (n10 : n ≤ 10) (hQ : Hid (∀ FB FT PU PV B X, CfI w0 X FB e n ce FT PU PV (List.replicate n (-1)) (List.replicate n 0) (List.replicate n 0) → Q .normal ⟨#[.slice e n ce, undef, .slice none 0 0, .pointer (some ⟨R, 0, none⟩), .bool false, .int .i64 (n : Int), .pointer (some ⟨FB, 0, none⟩), undef, .slice e n ce, .bool true, .bool false, undef, .slice e n ce, .int .i64 (n : Int), .slice e n ce, .slice (some ⟨B, 0, none⟩) 1 1, .int .i64 (n : Int), .slice (some ⟨FT, 0, none⟩) n n, .int .i64 (n : Int), .slice (some ⟨PU, 0, none⟩) n n, .int .i64 (n : Int), .slice (some ⟨PV, 0, none⟩) n n, .agg #[.slice (some ⟨PU, 0, none⟩) n n, .slice (some ⟨PV, 0, none⟩) n n], .agg (fv e n ce FT PU PV), undef, undef, undef, undef, undef, undef, undef, undef, undef, undef, undef, undef, undef], []⟩ X)) (HBB : Hid (W.cell? ⟨B, 0, none⟩ = some (.int .i64 (-1)) ∧ B < W.heap.size)) (HFT : Hid (W.ownsRow w0.heap.size 3 1 (.slice (some ⟨FT, 0, none⟩) n n) n (ints (List.replicate n (-1))))) (HPU : Hid (W.ownsRow w0.heap.size 3 1 (.slice (some ⟨PU, 0, none⟩) n n) n (ints (List.replicate n 0)))) (HFB : Hid (Z4 W FB ∧ w0.heap.size ≤ FB)) (HBL : Hid (Below w0.heap.size w0 W)) (n3_5 : FT ≠ PU) (n3_10 : FT ≠ FB) (n5_10 : PU ≠ FB) :
    wpAnyH Try.prog .any ops4 (NoPanic Q) (fun _ => True) 4 #[true, true, true, true, true, true, true, false, false, false, true, false] ⟨#[.slice e n ce, undef, .slice none 0 0, .pointer (some ⟨R, 0, none⟩), .bool false, .int .i64 (n : Int), .pointer (some ⟨FB, 0, none⟩), undef, .slice e n ce, .bool true, .bool false, undef, .slice e n ce, .int .i64 (n : Int), .slice e n ce, .slice (some ⟨B, 0, none⟩) 1 1, .int .i64 (n : Int), .slice (some ⟨FT, 0, none⟩) n n, .int .i64 (n : Int), .slice (some ⟨PU, 0, none⟩) n n, .int .i64 (n : Int), undef, undef, undef, undef, undef, undef, undef, undef, undef, undef, undef, undef, undef, undef, undef, undef], []⟩ W := by
  have hmk := makeI_run n (by omega)
  unfold ops4
  refine wpAnyH_ready (rs := [7]) (by kernel_rfl) (by simp) ?_
  refine AllReadyH.cons (o := ⟨some 21, _, _, _, _, none⟩) rfl (fun K hK => ?_) (AllReadyH.nil)
  · have l1 := HBB.out.2
    have l3 := (HFT.out.lt FT rfl).2
    have l5 := (HPU.out.lt PU rfl).2
    have l10 := HFB.out.1.lt
    have hsz := HBL.out.size
    have hb' := below_new W (.cells (madeCells #[.int .i64 0] n) 3)
    have HBBn := hide (cm1_below HBB.out hb')
    have HFTn := hide (g_own HFT.out hb')
    have HPUn := hide (g_own HPU.out hb')
    have HFBn := hide ((⟨HFB.out.1.below hb', HFB.out.2⟩ : _ ∧ _))
    have HBLn := hide (HBL.out.trans (hb'.mono HBL.out.size))
    have HPVn : Hid ((W.alloc (.cells (madeCells #[.int .i64 0] n) 3)).ownsRow w0.heap.size 3 1 (.slice (some ⟨W.heap.size, 0, none⟩) n n) n (ints (List.replicate n 0))) := hide (own_low9 (made_own W n (by omega)) HBL.out.size)
    go_simp
    refine hK.out _ _ trivial (fun _ => ?_)
    clear hK K hb'
    clear HBL HBB HFT HPU HFB hmk
    simp only [List.setIfInBounds_toArray, List.set_cons_zero, List.set_cons_succ]
    refine wpAnyH_take (i := 8) (oi := ⟨some 22, _, _, _, _, none⟩) (v := .agg #[.slice (some ⟨PU, 0, none⟩) n n, .slice (some ⟨W.heap.size, 0, none⟩) n n]) rfl (by kernel_rfl) (by kernel_rfl) (by kernel_rfl) (fun _ _ _ h => h) (Or.inl ⟨by rfl, fun w' hSw => by clear hSw; go_simp⟩) trivial ?_
    simp only [Act.put, List.setIfInBounds_toArray, List.set_cons_zero, List.set_cons_succ]
    refine wpAnyH_take (i := 9) (oi := ⟨some 23, _, _, _, _, none⟩) (v := .agg (fv e n ce FT PU W.heap.size)) rfl (by kernel_rfl) (by kernel_rfl) (by kernel_rfl) (fun _ _ _ h => h) (Or.inl ⟨by rfl, fun w' hSw => by clear hSw; unfold fv; go_simp⟩) trivial ?_
    simp only [Act.put, List.setIfInBounds_toArray, List.set_cons_zero, List.set_cons_succ]
    exact cfd_1_3_5_7_10 n10 hQ HBBn HFTn HPUn HPVn HFBn HBLn n3_5 (by omega) n3_10 (by omega) n5_10 (by omega)
set_option maxRecDepth 20000 in
set_option maxHeartbeats 4000000 in
theorem cfd_1_3_7_10 {Q : Exit → Act → World → Prop} {w0 W : World} {e : Option Addr} {n ce R B FT PV FB : Nat} (n10 : n ≤ 10) (hQ : Hid (∀ FB FT PU PV B X, CfI w0 X FB e n ce FT PU PV (List.replicate n (-1)) (List.replicate n 0) (List.replicate n 0) → Q .normal ⟨#[.slice e n ce, undef, .slice none 0 0, .pointer (some ⟨R, 0, none⟩), .bool false, .int .i64 (n : Int), .pointer (some ⟨FB, 0, none⟩), undef, .slice e n ce, .bool true, .bool false, undef, .slice e n ce, .int .i64 (n : Int), .slice e n ce, .slice (some ⟨B, 0, none⟩) 1 1, .int .i64 (n : Int), .slice (some ⟨FT, 0, none⟩) n n, .int .i64 (n : Int), .slice (some ⟨PU, 0, none⟩) n n, .int .i64 (n : Int), .slice (some ⟨PV, 0, none⟩) n n, .agg #[.slice (some ⟨PU, 0, none⟩) n n, .slice (some ⟨PV, 0, none⟩) n n], .agg (fv e n ce FT PU PV), undef, undef, undef, undef, undef, undef, undef, undef, undef, undef, undef, undef, undef], []⟩ X)) (HBB : Hid (W.cell? ⟨B, 0, none⟩ = some (.int .i64 (-1)) ∧ B < W.heap.size)) (HFT : Hid (W.ownsRow w0.heap.size 3 1 (.slice (some ⟨FT, 0, none⟩) n n) n (ints (List.replicate n (-1))))) (HPV : Hid (W.ownsRow w0.heap.size 3 1 (.slice (some ⟨PV, 0, none⟩) n n) n (ints (List.replicate n 0)))) (HFB : Hid (Z4 W FB ∧ w0.heap.size ≤ FB)) (HBL : Hid (Below w0.heap.size w0 W)) (n3_7 : FT ≠ PV) (n3_10 : FT ≠ FB) (n7_10 : PV ≠ FB) :
    wpAnyH Try.prog .any ops4 (NoPanic Q) (fun _ => True) 4 #[true, true, true, true, true, false, true, true, false, false, true, false] ⟨#[.slice e n ce, undef, .slice none 0 0, .pointer (some ⟨R, 0, none⟩), .bool false, .int .i64 (n : Int), .pointer (some ⟨FB, 0, none⟩), undef, .slice e n ce, .bool true, .bool false, undef, .slice e n ce, .int .i64 (n : Int), .slice e n ce, .slice (some ⟨B, 0, none⟩) 1 1, .int .i64 (n : Int), .slice (some ⟨FT, 0, none⟩) n n, .int .i64 (n : Int), undef, .int .i64 (n : Int), .slice (some ⟨PV, 0, none⟩) n n, undef, undef, undef, undef, undef, undef, undef, undef, undef, undef, undef, undef, undef, undef, undef], []⟩ W := by
  have hmk := makeI_run n (by omega)
  unfold ops4
  refine wpAnyH_ready (rs := [5]) (by kernel_rfl) (by simp) ?_
  refine AllReadyH.cons (o := ⟨some 19, _, _, _, _, none⟩) rfl (fun K hK => ?_) (AllReadyH.nil)
  · have l1 := HBB.out.2
    have l3 := (HFT.out.lt FT rfl).2
    have l7 := (HPV.out.lt PV rfl).2
    have l10 := HFB.out.1.lt
    have hsz := HBL.out.size
    have hb' := below_new W (.cells (madeCells #[.int .i64 0] n) 3)
    have HBBn := hide (cm1_below HBB.out hb')
    have HFTn := hide (g_own HFT.out hb')
    have HPVn := hide (g_own HPV.out hb')
    have HFBn := hide ((⟨HFB.out.1.below hb', HFB.out.2⟩ : _ ∧ _))
    have HBLn := hide (HBL.out.trans (hb'.mono HBL.out.size))
    have HPUn : Hid ((W.alloc (.cells (madeCells #[.int .i64 0] n) 3)).ownsRow w0.heap.size 3 1 (.slice (some ⟨W.heap.size, 0, none⟩) n n) n (ints (List.replicate n 0))) := hide (own_low9 (made_own W n (by omega)) HBL.out.size)
    go_simp
    refine hK.out _ _ trivial (fun _ => ?_)
    clear hK K hb'
    clear HBL HBB HFT HPV HFB hmk
    simp only [List.setIfInBounds_toArray, List.set_cons_zero, List.set_cons_succ]
    refine wpAnyH_take (i := 8) (oi := ⟨some 22, _, _, _, _, none⟩) (v := .agg #[.slice (some ⟨W.heap.size, 0, none⟩) n n, .slice (some ⟨PV, 0, none⟩) n n]) rfl (by kernel_rfl) (by kernel_rfl) (by kernel_rfl) (fun _ _ _ h => h) (Or.inl ⟨by rfl, fun w' hSw => by clear hSw; go_simp⟩) trivial ?_
    simp only [Act.put, List.setIfInBounds_toArray, List.set_cons_zero, List.set_cons_succ]
    refine wpAnyH_take (i := 9) (oi := ⟨some 23, _, _, _, _, none⟩) (v := .agg (fv e n ce FT W.heap.size PV)) rfl (by kernel_rfl) (by kernel_rfl) (by kernel_rfl) (fun _ _ _ h => h) (Or.inl ⟨by rfl, fun w' hSw => by clear hSw; unfold fv; go_simp⟩) trivial ?_
    simp only [Act.put, List.setIfInBounds_toArray, List.set_cons_zero, List.set_cons_succ]
    exact cfd_1_3_5_7_10 n10 hQ HBBn HFTn HPUn HPVn HFBn HBLn (by omega) n3_7 n3_10 (by omega) (by omega) n7_10
set_option maxRecDepth 20000 in
set_option maxHeartbeats 4000000 in
theorem cfd_5_7_10 {Q : Exit → Act → World → Prop} {w0 W : World} {e : Option Addr} {n ce R PU PV FB : Nat} (n10 : n ≤ 10) (hQ : Hid (∀ FB FT PU PV B X, CfI w0 X FB e n ce FT PU PV (List.replicate n (-1)) (List.replicate n 0) (List.replicate n 0) → Q .normal ⟨#[.slice e n ce, undef, .slice none 0 0, .pointer (some ⟨R, 0, none⟩), .bool false, .int .i64 (n : Int), .pointer (some ⟨FB, 0, none⟩), undef, .slice e n ce, .bool true, .bool false, undef, .slice e n ce, .int .i64 (n : Int), .slice e n ce, .slice (some ⟨B, 0, none⟩) 1 1, .int .i64 (n : Int), .slice (some ⟨FT, 0, none⟩) n n, .int .i64 (n : Int), .slice (some ⟨PU, 0, none⟩) n n, .int .i64 (n : Int), .slice (some ⟨PV, 0, none⟩) n n, .agg #[.slice (some ⟨PU, 0, none⟩) n n, .slice (some ⟨PV, 0, none⟩) n n], .agg (fv e n ce FT PU PV), undef, undef, undef, undef, undef, undef, undef, undef, undef, undef, undef, undef, undef], []⟩ X)) (HPU : Hid (W.ownsRow w0.heap.size 3 1 (.slice (some ⟨PU, 0, none⟩) n n) n (ints (List.replicate n 0)))) (HPV : Hid (W.ownsRow w0.heap.size 3 1 (.slice (some ⟨PV, 0, none⟩) n n) n (ints (List.replicate n 0)))) (HFB : Hid (Z4 W FB ∧ w0.heap.size ≤ FB)) (HBL : Hid (Below w0.heap.size w0 W)) (n5_7 : PU ≠ PV) (n5_10 : PU ≠ FB) (n7_10 : PV ≠ FB) :
    wpAnyH Try.prog .any ops4 (NoPanic Q) (fun _ => True) 4 #[true, false, true, false, true, true, true, true, true, false, true, false] ⟨#[.slice e n ce, undef, .slice none 0 0, .pointer (some ⟨R, 0, none⟩), .bool false, .int .i64 (n : Int), .pointer (some ⟨FB, 0, none⟩), undef, .slice e n ce, .bool true, .bool false, undef, .slice e n ce, .int .i64 (n : Int), .slice e n ce, undef, .int .i64 (n : Int), undef, .int .i64 (n : Int), .slice (some ⟨PU, 0, none⟩) n n, .int .i64 (n : Int), .slice (some ⟨PV, 0, none⟩) n n, .agg #[.slice (some ⟨PU, 0, none⟩) n n, .slice (some ⟨PV, 0, none⟩) n n], undef, undef, undef, undef, undef, undef, undef, undef, undef, undef, undef, undef, undef, undef], []⟩ W := by
  have hmk := makeI_run n (by omega)
  unfold ops4
  refine wpAnyH_ready (rs := [1]) (by kernel_rfl) (by simp) ?_
  refine AllReadyH.cons (o := ⟨some 15, _, _, _, _, none⟩) rfl (fun K hK => ?_) (AllReadyH.nil)
  · have l5 := (HPU.out.lt PU rfl).2
    have l7 := (HPV.out.lt PV rfl).2
    have l10 := HFB.out.1.lt
    have hsz := HBL.out.size
    have hb' := below_new W (.cells #[.int .i64 (-1)] 3)
    have HPUn := hide (g_own HPU.out hb')
    have HPVn := hide (g_own HPV.out hb')
    have HFBn := hide ((⟨HFB.out.1.below hb', HFB.out.2⟩ : _ ∧ _))
    have HBLn := hide (HBL.out.trans (hb'.mono HBL.out.size))
    have HBBn := hide (cm1_new W)
    go_simp
    refine hK.out _ _ trivial (fun _ => ?_)
    clear hK K hb'
    clear HBL HPU HPV HFB hmk
    exact cfd_1_5_7_10 n10 hQ HBBn HPUn HPVn HFBn HBLn n5_7 n5_10 n7_10
set_option maxRecDepth 20000 in
set_option maxHeartbeats 4000000 in
theorem cfd_1_5_7 {Q : Exit → Act → World → Prop} {w0 W : World} {e : Option Addr} {n ce R B PU PV : Nat} (n10 : n ≤ 10) (hQ : Hid (∀ FB FT PU PV B X, CfI w0 X FB e n ce FT PU PV (List.replicate n (-1)) (List.replicate n 0) (List.replicate n 0) → Q .normal ⟨#[.slice e n ce, undef, .slice none 0 0, .pointer (some ⟨R, 0, none⟩), .bool false, .int .i64 (n : Int), .pointer (some ⟨FB, 0, none⟩), undef, .slice e n ce, .bool true, .bool false, undef, .slice e n ce, .int .i64 (n : Int), .slice e n ce, .slice (some ⟨B, 0, none⟩) 1 1, .int .i64 (n : Int), .slice (some ⟨FT, 0, none⟩) n n, .int .i64 (n : Int), .slice (some ⟨PU, 0, none⟩) n n, .int .i64 (n : Int), .slice (some ⟨PV, 0, none⟩) n n, .agg #[.slice (some ⟨PU, 0, none⟩) n n, .slice (some ⟨PV, 0, none⟩) n n], .agg (fv e n ce FT PU PV), undef, undef, undef, undef, undef, undef, undef, undef, undef, undef, undef, undef, undef], []⟩ X)) (HBB : Hid (W.cell? ⟨B, 0, none⟩ = some (.int .i64 (-1)) ∧ B < W.heap.size)) (HPU : Hid (W.ownsRow w0.heap.size 3 1 (.slice (some ⟨PU, 0, none⟩) n n) n (ints (List.replicate n 0)))) (HPV : Hid (W.ownsRow w0.heap.size 3 1 (.slice (some ⟨PV, 0, none⟩) n n) n (ints (List.replicate n 0)))) (HBL : Hid (Below w0.heap.size w0 W)) (n5_7 : PU ≠ PV) :
    wpAnyH Try.prog .any ops4 (NoPanic Q) (fun _ => True) 4 #[true, true, true, false, true, true, true, true, true, false, false, false] ⟨#[.slice e n ce, undef, .slice none 0 0, .pointer (some ⟨R, 0, none⟩), .bool false, .int .i64 (n : Int), undef, undef, .slice e n ce, .bool true, .bool false, undef, .slice e n ce, .int .i64 (n : Int), .slice e n ce, .slice (some ⟨B, 0, none⟩) 1 1, .int .i64 (n : Int), undef, .int .i64 (n : Int), .slice (some ⟨PU, 0, none⟩) n n, .int .i64 (n : Int), .slice (some ⟨PV, 0, none⟩) n n, .agg #[.slice (some ⟨PU, 0, none⟩) n n, .slice (some ⟨PV, 0, none⟩) n n], undef, undef, undef, undef, undef, undef, undef, undef, undef, undef, undef, undef, undef, undef], []⟩ W := by
  have hmk := makeI_run n (by omega)
  unfold ops4
  refine wpAnyH_ready (rs := [3, 10]) (by kernel_rfl) (by simp) ?_
  refine AllReadyH.cons (o := ⟨some 17, _, _, _, _, none⟩) rfl (fun K hK => ?_) (AllReadyH.cons (o := ⟨some 6, _, _, _, _, none⟩) rfl (fun K hK => ?_) (AllReadyH.nil))
  · have l1 := HBB.out.2
    have l5 := (HPU.out.lt PU rfl).2
    have l7 := (HPV.out.lt PV rfl).2
    have hsz := HBL.out.size
    go_simp
    refine (rp_any n10 HBB.out.1 HBB.out.2).mono ?_
    rintro e' x1 ⟨rfl, hb', own'⟩
    have HBBn := hide (cm1_below HBB.out hb')
    have HPUn := hide (g_own HPU.out hb')
    have HPVn := hide (g_own HPV.out hb')
    have HBLn := hide (HBL.out.trans (hb'.mono HBL.out.size))
    have HFTn : Hid (x1.ownsRow w0.heap.size 3 1 (.slice (some ⟨W.heap.size, 0, none⟩) n n) n (ints (List.replicate n (-1)))) := hide (own_low9 own' HBL.out.size)
    refine hK.out _ _ trivial (fun _ => ?_)
    clear hK K hb' own'
    clear HBL HBB HPU HPV hmk
    simp only [List.setIfInBounds_toArray, List.set_cons_zero, List.set_cons_succ]
    refine wpAnyH_take (i := 9) (oi := ⟨some 23, _, _, _, _, none⟩) (v := .agg (fv e n ce W.heap.size PU PV)) rfl (by kernel_rfl) (by kernel_rfl) (by kernel_rfl) (fun _ _ _ h => h) (Or.inl ⟨by rfl, fun w' hSw => by clear hSw; unfold fv; go_simp⟩) trivial ?_
    simp only [Act.put, List.setIfInBounds_toArray, List.set_cons_zero, List.set_cons_succ]
    exact cfd_1_3_5_7 n10 hQ HBBn HFTn HPUn HPVn HBLn (by omega) (by omega) n5_7
  · have l1 := HBB.out.2
    have l5 := (HPU.out.lt PU rfl).2
    have l7 := (HPV.out.lt PV rfl).2
    have hsz := HBL.out.size
    have hb' := below_new W (.cells #[.slice none 0 0, .slice none 0 0, .slice none 0 0, .slice none 0 0] 52)
    have HBBn := hide (cm1_below HBB.out hb')
    have HPUn := hide (g_own HPU.out hb')
    have HPVn := hide (g_own HPV.out hb')
    have HBLn := hide (HBL.out.trans (hb'.mono HBL.out.size))
    have HFBn := hide (⟨Z4.new W 52, hsz⟩ : _ ∧ _)
    go_simp
    refine hK.out _ _ trivial (fun _ => ?_)
    clear hK K hb'
    clear HBL HBB HPU HPV hmk
    exact cfd_1_5_7_10 n10 hQ HBBn HPUn HPVn HFBn HBLn n5_7 (by omega) (by omega)
set_option maxRecDepth 20000 in
set_option maxHeartbeats 4000000 in
theorem cfd_1_5_10 {Q : Exit → Act → World → Prop} {w0 W : World} {e : Option Addr} {n ce R B PU FB : Nat} (n10 : n ≤ 10) (hQ : Hid (∀ FB FT PU PV B X, CfI w0 X FB e n ce FT PU PV (List.replicate n (-1)) (List.replicate n 0) (List.replicate n 0) → Q .normal ⟨#[.slice e n ce, undef, .slice none 0 0, .pointer (some ⟨R, 0, none⟩), .bool false, .int .i64 (n : Int), .pointer (some ⟨FB, 0, none⟩), undef, .slice e n ce, .bool true, .bool false, undef, .slice e n ce, .int .i64 (n : Int), .slice e n ce, .slice (some ⟨B, 0, none⟩) 1 1, .int .i64 (n : Int), .slice (some ⟨FT, 0, none⟩) n n, .int .i64 (n : Int), .slice (some ⟨PU, 0, none⟩) n n, .int .i64 (n : Int), .slice (some ⟨PV, 0, none⟩) n n, .agg #[.slice (some ⟨PU, 0, none⟩) n n, .slice (some ⟨PV, 0, none⟩) n n], .agg (fv e n ce FT PU PV), undef, undef, undef, undef, undef, undef, undef, undef, undef, undef, undef, undef, undef], []⟩ X)) (HBB : Hid (W.cell? ⟨B, 0, none⟩ = some (.int .i64 (-1)) ∧ B < W.heap.size)) (HPU : Hid (W.ownsRow w0.heap.size 3 1 (.slice (some ⟨PU, 0, none⟩) n n) n (ints (List.replicate n 0)))) (HFB : Hid (Z4 W FB ∧ w0.heap.size ≤ FB)) (HBL : Hid (Below w0.heap.size w0 W)) (n5_10 : PU ≠ FB) :
    wpAnyH Try.prog .any ops4 (NoPanic Q) (fun _ => True) 5 #[true, true, true, false, true, true, true, false, false, false, true, false] ⟨#[.slice e n ce, undef, .slice none 0 0, .pointer (some ⟨R, 0, none⟩), .bool false, .int .i64 (n : Int), .pointer (some ⟨FB, 0, none⟩), undef, .slice e n ce, .bool true, .bool false, undef, .slice e n ce, .int .i64 (n : Int), .slice e n ce, .slice (some ⟨B, 0, none⟩) 1 1, .int .i64 (n : Int), undef, .int .i64 (n : Int), .slice (some ⟨PU, 0, none⟩) n n, .int .i64 (n : Int), undef, undef, undef, undef, undef, undef, undef, undef, undef, undef, undef, undef, undef, undef, undef, undef], []⟩ W := by
  have hmk := makeI_run n (by omega)
  unfold ops4
  refine wpAnyH_ready (rs := [3, 7]) (by kernel_rfl) (by simp) ?_
  refine AllReadyH.cons (o := ⟨some 17, _, _, _, _, none⟩) rfl (fun K hK => ?_) (AllReadyH.cons (o := ⟨some 21, _, _, _, _, none⟩) rfl (fun K hK => ?_) (AllReadyH.nil))
  · have l1 := HBB.out.2
    have l5 := (HPU.out.lt PU rfl).2
    have l10 := HFB.out.1.lt
    have hsz := HBL.out.size
    go_simp
    refine (rp_any n10 HBB.out.1 HBB.out.2).mono ?_
    rintro e' x1 ⟨rfl, hb', own'⟩
    have HBBn := hide (cm1_below HBB.out hb')
    have HPUn := hide (g_own HPU.out hb')
    have HFBn := hide ((⟨HFB.out.1.below hb', HFB.out.2⟩ : _ ∧ _))
    have HBLn := hide (HBL.out.trans (hb'.mono HBL.out.size))
    have HFTn : Hid (x1.ownsRow w0.heap.size 3 1 (.slice (some ⟨W.heap.size, 0, none⟩) n n) n (ints (List.replicate n (-1)))) := hide (own_low9 own' HBL.out.size)
    refine hK.out _ _ trivial (fun _ => ?_)
    clear hK K hb' own'
    clear HBL HBB HPU HFB hmk
    exact cfd_1_3_5_10 n10 hQ HBBn HFTn HPUn HFBn HBLn (by omega) (by omega) n5_10
  · have l1 := HBB.out.2
    have l5 := (HPU.out.lt PU rfl).2
    have l10 := HFB.out.1.lt
    have hsz := HBL.out.size
    have hb' := below_new W (.cells (madeCells #[.int .i64 0] n) 3)
    have HBBn := hide (cm1_below HBB.out hb')
    have HPUn := hide (g_own HPU.out hb')
    have HFBn := hide ((⟨HFB.out.1.below hb', HFB.out.2⟩ : _ ∧ _))
    have HBLn := hide (HBL.out.trans (hb'.mono HBL.out.size))
    have HPVn : Hid ((W.alloc (.cells (madeCells #[.int .i64 0] n) 3)).ownsRow w0.heap.size 3 1 (.slice (some ⟨W.heap.size, 0, none⟩) n n) n (ints (List.replicate n 0))) := hide (own_low9 (made_own W n (by omega)) HBL.out.size)
    go_simp
    refine hK.out _ _ trivial (fun _ => ?_)
    clear hK K hb'
    clear HBL HBB HPU HFB hmk
    simp only [List.setIfInBounds_toArray, List.set_cons_zero, List.set_cons_succ]
    refine wpAnyH_take (i := 8) (oi := ⟨some 22, _, _, _, _, none⟩) (v := .agg #[.slice (some ⟨PU, 0, none⟩) n n, .slice (some ⟨W.heap.size, 0, none⟩) n n]) rfl (by kernel_rfl) (by kernel_rfl) (by kernel_rfl) (fun _ _ _ h => h) (Or.inl ⟨by rfl, fun w' hSw => by clear hSw; go_simp⟩) trivial ?_
    simp only [Act.put, List.setIfInBounds_toArray, List.set_cons_zero, List.set_cons_succ]
    exact cfd_1_5_7_10 n10 hQ HBBn HPUn HPVn HFBn HBLn (by omega) n5_10 (by omega)
set_option maxRecDepth 20000 in
set_option maxHeartbeats 4000000 in
theorem cfd_1_7_10 {Q : Exit → Act → World → Prop} {w0 W : World} {e : Option Addr} {n ce R B PV FB : Nat} (n10 : n ≤ 10) (hQ : Hid (∀ FB FT PU PV B X, CfI w0 X FB e n ce FT PU PV (List.replicate n (-1)) (List.replicate n 0) (List.replicate n 0) → Q .normal ⟨#[.slice e n ce, undef, .slice none 0 0, .pointer (some ⟨R, 0, none⟩), .bool false, .int .i64 (n : Int), .pointer (some ⟨FB, 0, none⟩), undef, .slice e n ce, .bool true, .bool false, undef, .slice e n ce, .int .i64 (n : Int), .slice e n ce, .slice (some ⟨B, 0, none⟩) 1 1, .int .i64 (n : Int), .slice (some ⟨FT, 0, none⟩) n n, .int .i64 (n : Int), .slice (some ⟨PU, 0, none⟩) n n, .int .i64 (n : Int), .slice (some ⟨PV, 0, none⟩) n n, .agg #[.slice (some ⟨PU, 0, none⟩) n n, .slice (some ⟨PV, 0, none⟩) n n], .agg (fv e n ce FT PU PV), undef, undef, undef, undef, undef, undef, undef, undef, undef, undef, undef, undef, undef], []⟩ X)) (HBB : Hid (W.cell? ⟨B, 0, none⟩ = some (.int .i64 (-1)) ∧ B < W.heap.size)) (HPV : Hid (W.ownsRow w0.heap.size 3 1 (.slice (some ⟨PV, 0, none⟩) n n) n (ints (List.replicate n 0)))) (HFB : Hid (Z4 W FB ∧ w0.heap.size ≤ FB)) (HBL : Hid (Below w0.heap.size w0 W)) (n7_10 : PV ≠ FB) :
    wpAnyH Try.prog .any ops4 (NoPanic Q) (fun _ => True) 5 #[true, true, true, false, true, false, true, true, false, false, true, false] ⟨#[.slice e n ce, undef, .slice none 0 0, .pointer (some ⟨R, 0, none⟩), .bool false, .int .i64 (n : Int), .pointer (some ⟨FB, 0, none⟩), undef, .slice e n ce, .bool true, .bool false, undef, .slice e n ce, .int .i64 (n : Int), .slice e n ce, .slice (some ⟨B, 0, none⟩) 1 1, .int .i64 (n : Int), undef, .int .i64 (n : Int), undef, .int .i64 (n : Int), .slice (some ⟨PV, 0, none⟩) n n, undef, undef, undef, undef, undef, undef, undef, undef, undef, undef, undef, undef, undef, undef, undef], []⟩ W := by
  have hmk := makeI_run n (by omega)
  unfold ops4
  refine wpAnyH_ready (rs := [3, 5]) (by kernel_rfl) (by simp) ?_
  refine AllReadyH.cons (o := ⟨some 17, _, _, _, _, none⟩) rfl (fun K hK => ?_) (AllReadyH.cons (o := ⟨some 19, _, _, _, _, none⟩) rfl (fun K hK => ?_) (AllReadyH.nil))
  · have l1 := HBB.out.2
    have l7 := (HPV.out.lt PV rfl).2
    have l10 := HFB.out.1.lt
    have hsz := HBL.out.size
    go_simp
    refine (rp_any n10 HBB.out.1 HBB.out.2).mono ?_
    rintro e' x1 ⟨rfl, hb', own'⟩
    have HBBn := hide (cm1_below HBB.out hb')
    have HPVn := hide (g_own HPV.out hb')
    have HFBn := hide ((⟨HFB.out.1.below hb', HFB.out.2⟩ : _ ∧ _))
    have HBLn := hide (HBL.out.trans (hb'.mono HBL.out.size))
    have HFTn : Hid (x1.ownsRow w0.heap.size 3 1 (.slice (some ⟨W.heap.size, 0, none⟩) n n) n (ints (List.replicate n (-1)))) := hide (own_low9 own' HBL.out.size)
    refine hK.out _ _ trivial (fun _ => ?_)
    clear hK K hb' own'
    clear HBL HBB HPV HFB hmk
    exact cfd_1_3_7_10 n10 hQ HBBn HFTn HPVn HFBn HBLn (by omega) (by omega) n7_10
  · have l1 := HBB.out.2
    have l7 := (HPV.out.lt PV rfl).2
    have l10 := HFB.out.1.lt
    have hsz := HBL.out.size
    have hb' := below_new W (.cells (madeCells #[.int .i64 0] n) 3)
    have HBBn := hide (cm1_below HBB.out hb')
    have HPVn := hide (g_own HPV.out hb')
    have HFBn := hide ((⟨HFB.out.1.below hb', HFB.out.2⟩ : _ ∧ _))
    have HBLn := hide (HBL.out.trans (hb'.mono HBL.out.size))
    have HPUn : Hid ((W.alloc (.cells (madeCells #[.int .i64 0] n) 3)).ownsRow w0.heap.size 3 1 (.slice (some ⟨W.heap.size, 0, none⟩) n n) n (ints (List.replicate n 0))) := hide (own_low9 (made_own W n (by omega)) HBL.out.size)
    go_simp
    refine hK.out _ _ trivial (fun _ => ?_)
    clear hK K hb'
    clear HBL HBB HPV HFB hmk
    simp only [List.setIfInBounds_toArray, List.set_cons_zero, List.set_cons_succ]
    refine wpAnyH_take (i := 8) (oi := ⟨some 22, _, _, _, _, none⟩) (v := .agg #[.slice (some ⟨W.heap.size, 0, none⟩) n n, .slice (some ⟨PV, 0, none⟩) n n]) rfl (by kernel_rfl) (by kernel_rfl) (by kernel_rfl) (fun _ _ _ h => h) (Or.inl ⟨by rfl, fun w' hSw => by clear hSw; go_simp⟩) trivial ?_
    simp only [Act.put, List.setIfInBounds_toArray, List.set_cons_zero, List.set_cons_succ]
    exact cfd_1_5_7_10 n10 hQ HBBn HPUn HPVn HFBn HBLn (by omega) (by omega) n7_10
set_option maxRecDepth 20000 in
set_option maxHeartbeats 4000000 in
theorem cfd_1_3_5 {Q : Exit → Act → World → Prop} {w0 W : World} {e : Option Addr} {n ce R B FT PU : Nat} (n10 : n ≤ 10) (hQ : Hid (∀ FB FT PU PV B X, CfI w0 X FB e n ce FT PU PV (List.replicate n (-1)) (List.replicate n 0) (List.replicate n 0) → Q .normal ⟨#[.slice e n ce, undef, .slice none 0 0, .pointer (some ⟨R, 0, none⟩), .bool false, .int .i64 (n : Int), .pointer (some ⟨FB, 0, none⟩), undef, .slice e n ce, .bool true, .bool false, undef, .slice e n ce, .int .i64 (n : Int), .slice e n ce, .slice (some ⟨B, 0, none⟩) 1 1, .int .i64 (n : Int), .slice (some ⟨FT, 0, none⟩) n n, .int .i64 (n : Int), .slice (some ⟨PU, 0, none⟩) n n, .int .i64 (n : Int), .slice (some ⟨PV, 0, none⟩) n n, .agg #[.slice (some ⟨PU, 0, none⟩) n n, .slice (some ⟨PV, 0, none⟩) n n], .agg (fv e n ce FT PU PV), undef, undef, undef, undef, undef, undef, undef, undef, undef, undef, undef, undef, undef], []⟩ X)) (HBB : Hid (W.cell? ⟨B, 0, none⟩ = some (.int .i64 (-1)) ∧ B < W.heap.size)) (HFT : Hid (W.ownsRow w0.heap.size 3 1 (.slice (some ⟨FT, 0, none⟩) n n) n (ints (List.replicate n (-1))))) (HPU : Hid (W.ownsRow w0.heap.size 3 1 (.slice (some ⟨PU, 0, none⟩) n n) n (ints (List.replicate n 0)))) (HBL : Hid (Below w0.heap.size w0 W)) (n3_5 : FT ≠ PU) :
    wpAnyH Try.prog .any ops4 (NoPanic Q) (fun _ => True) 5 #[true, true, true, true, true, true, true, false, false, false, false, false] ⟨#[.slice e n ce, undef, .slice none 0 0, .pointer (some ⟨R, 0, none⟩), .bool false, .int .i64 (n : Int), undef, undef, .slice e n ce, .bool true, .bool false, undef, .slice e n ce, .int .i64 (n : Int), .slice e n ce, .slice (some ⟨B, 0, none⟩) 1 1, .int .i64 (n : Int), .slice (some ⟨FT, 0, none⟩) n n, .int .i64 (n : Int), .slice (some ⟨PU, 0, none⟩) n n, .int .i64 (n : Int), undef, undef, undef, undef, undef, undef, undef, undef, undef, undef, undef, undef, undef, undef, undef, undef], []⟩ W := by
  have hmk := makeI_run n (by omega)
  unfold ops4
  refine wpAnyH_ready (rs := [7, 10]) (by kernel_rfl) (by simp) ?_
  refine AllReadyH.cons (o := ⟨some 21, _, _, _, _, none⟩) rfl (fun K hK => ?_) (AllReadyH.cons (o := ⟨some 6, _, _, _, _, none⟩) rfl (fun K hK => ?_) (AllReadyH.nil))
  · have l1 := HBB.out.2
    have l3 := (HFT.out.lt FT rfl).2
    have l5 := (HPU.out.lt PU rfl).2
    have hsz := HBL.out.size
    have hb' := below_new W (.cells (madeCells #[.int .i64 0] n) 3)
    have HBBn := hide (cm1_below HBB.out hb')
    have HFTn := hide (g_own HFT.out hb')
    have HPUn := hide (g_own HPU.out hb')
    have HBLn := hide (HBL.out.trans (hb'.mono HBL.out.size))
    have HPVn : Hid ((W.alloc (.cells (madeCells #[.int .i64 0] n) 3)).ownsRow w0.heap.size 3 1 (.slice (some ⟨W.heap.size, 0, none⟩) n n) n (ints (List.replicate n 0))) := hide (own_low9 (made_own W n (by omega)) HBL.out.size)
    go_simp
    refine hK.out _ _ trivial (fun _ => ?_)
    clear hK K hb'
    clear HBL HBB HFT HPU hmk
    simp only [List.setIfInBounds_toArray, List.set_cons_zero, List.set_cons_succ]
    refine wpAnyH_take (i := 8) (oi := ⟨some 22, _, _, _, _, none⟩) (v := .agg #[.slice (some ⟨PU, 0, none⟩) n n, .slice (some ⟨W.heap.size, 0, none⟩) n n]) rfl (by kernel_rfl) (by kernel_rfl) (by kernel_rfl) (fun _ _ _ h => h) (Or.inl ⟨by rfl, fun w' hSw => by clear hSw; go_simp⟩) trivial ?_
    simp only [Act.put, List.setIfInBounds_toArray, List.set_cons_zero, List.set_cons_succ]
    refine wpAnyH_take (i := 9) (oi := ⟨some 23, _, _, _, _, none⟩) (v := .agg (fv e n ce FT PU W.heap.size)) rfl (by kernel_rfl) (by kernel_rfl) (by kernel_rfl) (fun _ _ _ h => h) (Or.inl ⟨by rfl, fun w' hSw => by clear hSw; unfold fv; go_simp⟩) trivial ?_
    simp only [Act.put, List.setIfInBounds_toArray, List.set_cons_zero, List.set_cons_succ]
    exact cfd_1_3_5_7 n10 hQ HBBn HFTn HPUn HPVn HBLn n3_5 (by omega) (by omega)
  · have l1 := HBB.out.2
    have l3 := (HFT.out.lt FT rfl).2
    have l5 := (HPU.out.lt PU rfl).2
    have hsz := HBL.out.size
    have hb' := below_new W (.cells #[.slice none 0 0, .slice none 0 0, .slice none 0 0, .slice none 0 0] 52)
    have HBBn := hide (cm1_below HBB.out hb')
    have HFTn := hide (g_own HFT.out hb')
    have HPUn := hide (g_own HPU.out hb')
    have HBLn := hide (HBL.out.trans (hb'.mono HBL.out.size))
    have HFBn := hide (⟨Z4.new W 52, hsz⟩ : _ ∧ _)
    go_simp
    refine hK.out _ _ trivial (fun _ => ?_)
    clear hK K hb'
    clear HBL HBB HFT HPU hmk
    exact cfd_1_3_5_10 n10 hQ HBBn HFTn HPUn HFBn HBLn n3_5 (by omega) (by omega)
set_option maxRecDepth 20000 in
set_option maxHeartbeats 4000000 in
theorem cfd_1_3_7 {Q : Exit → Act → World → Prop} {w0 W : World} {e : Option Addr} {n ce R B FT PV : Nat} (n10 : n ≤ 10) (hQ : Hid (∀ FB FT PU PV B X, CfI w0 X FB e n ce FT PU PV (List.replicate n (-1)) (List.replicate n 0) (List.replicate n 0) → Q .normal ⟨#[.slice e n ce, undef, .slice none 0 0, .pointer (some ⟨R, 0, none⟩), .bool false, .int .i64 (n : Int), .pointer (some ⟨FB, 0, none⟩), undef, .slice e n ce, .bool true, .bool false, undef, .slice e n ce, .int .i64 (n : Int), .slice e n ce, .slice (some ⟨B, 0, none⟩) 1 1, .int .i64 (n : Int), .slice (some ⟨FT, 0, none⟩) n n, .int .i64 (n : Int), .slice (some ⟨PU, 0, none⟩) n n, .int .i64 (n : Int), .slice (some ⟨PV, 0, none⟩) n n, .agg #[.slice (some ⟨PU, 0, none⟩) n n, .slice (some ⟨PV, 0, none⟩) n n], .agg (fv e n ce FT PU PV), undef, undef, undef, undef, undef, undef, undef, undef, undef, undef, undef, undef, undef], []⟩ X)) (HBB : Hid (W.cell? ⟨B, 0, none⟩ = some (.int .i64 (-1)) ∧ B < W.heap.size)) (HFT : Hid (W.ownsRow w0.heap.size 3 1 (.slice (some ⟨FT, 0, none⟩) n n) n (ints (List.replicate n (-1))))) (HPV : Hid (W.ownsRow w0.heap.size 3 1 (.slice (some ⟨PV, 0, none⟩) n n) n (ints (List.replicate n 0)))) (HBL : Hid (Below w0.heap.size w0 W)) (n3_7 : FT ≠ PV) :
    wpAnyH Try.prog .any ops4 (NoPanic Q) (fun _ => True) 5 #[true, true, true, true, true, false, true, true, false, false, false, false] ⟨#[.slice e n ce, undef, .slice none 0 0, .pointer (some ⟨R, 0, none⟩), .bool false, .int .i64 (n : Int), undef, undef, .slice e n ce, .bool true, .bool false, undef, .slice e n ce, .int .i64 (n : Int), .slice e n ce, .slice (some ⟨B, 0, none⟩) 1 1, .int .i64 (n : Int), .slice (some ⟨FT, 0, none⟩) n n, .int .i64 (n : Int), undef, .int .i64 (n : Int), .slice (some ⟨PV, 0, none⟩) n n, undef, undef, undef, undef, undef, undef, undef, undef, undef, undef, undef, undef, undef, undef, undef], []⟩ W := by
  have hmk := makeI_run n (by omega)
  unfold ops4
  refine wpAnyH_ready (rs := [5, 10]) (by kernel_rfl) (by simp) ?_
  refine AllReadyH.cons (o := ⟨some 19, _, _, _, _, none⟩) rfl (fun K hK => ?_) (AllReadyH.cons (o := ⟨some 6, _, _, _, _, none⟩) rfl (fun K hK => ?_) (AllReadyH.nil))
  · have l1 := HBB.out.2
    have l3 := (HFT.out.lt FT rfl).2
    have l7 := (HPV.out.lt PV rfl).2
    have hsz := HBL.out.size
    have hb' := below_new W (.cells (madeCells #[.int .i64 0] n) 3)
    have HBBn := hide (cm1_below HBB.out hb')
    have HFTn := hide (g_own HFT.out hb')
    have HPVn := hide (g_own HPV.out hb')
    have HBLn := hide (HBL.out.trans (hb'.mono HBL.out.size))
    have HPUn : Hid ((W.alloc (.cells (madeCells #[.int .i64 0] n) 3)).ownsRow w0.heap.size 3 1 (.slice (some ⟨W.heap.size, 0, none⟩) n n) n (ints (List.replicate n 0))) := hide (own_low9 (made_own W n (by omega)) HBL.out.size)
    go_simp
    refine hK.out _ _ trivial (fun _ => ?_)
    clear hK K hb'
    clear HBL HBB HFT HPV hmk
    simp only [List.setIfInBounds_toArray, List.set_cons_zero, List.set_cons_succ]
    refine wpAnyH_take (i := 8) (oi := ⟨some 22, _, _, _, _, none⟩) (v := .agg #[.slice (some ⟨W.heap.size, 0, none⟩) n n, .slice (some ⟨PV, 0, none⟩) n n]) rfl (by kernel_rfl) (by kernel_rfl) (by kernel_rfl) (fun _ _ _ h => h) (Or.inl ⟨by rfl, fun w' hSw => by clear hSw; go_simp⟩) trivial ?_
    simp only [Act.put, List.setIfInBounds_toArray, List.set_cons_zero, List.set_cons_succ]
    refine wpAnyH_take (i := 9) (oi := ⟨some 23, _, _, _, _, none⟩) (v := .agg (fv e n ce FT W.heap.size PV)) rfl (by kernel_rfl) (by kernel_rfl) (by kernel_rfl) (fun _ _ _ h => h) (Or.inl ⟨by rfl, fun w' hSw => by clear hSw; unfold fv; go_simp⟩) trivial ?_
    simp only [Act.put, List.setIfInBounds_toArray, List.set_cons_zero, List.set_cons_succ]
    exact cfd_1_3_5_7 n10 hQ HBBn HFTn HPUn HPVn HBLn (by omega) n3_7 (by omega)
  · have l1 := HBB.out.2
    have l3 := (HFT.out.lt FT rfl).2
    have l7 := (HPV.out.lt PV rfl).2
    have hsz := HBL.out.size
    have hb' := below_new W (.cells #[.slice none 0 0, .slice none 0 0, .slice none 0 0, .slice none 0 0] 52)
    have HBBn := hide (cm1_below HBB.out hb')
    have HFTn := hide (g_own HFT.out hb')
    have HPVn := hide (g_own HPV.out hb')
    have HBLn := hide (HBL.out.trans (hb'.mono HBL.out.size))
    have HFBn := hide (⟨Z4.new W 52, hsz⟩ : _ ∧ _)
    go_simp
    refine hK.out _ _ trivial (fun _ => ?_)
    clear hK K hb'
    clear HBL HBB HFT HPV hmk
    exact cfd_1_3_7_10 n10 hQ HBBn HFTn HPVn HFBn HBLn n3_7 (by omega) (by omega)
set_option maxRecDepth 20000 in
set_option maxHeartbeats 4000000 in
theorem cfd_1_3_10 {Q : Exit → Act → World → Prop} {w0 W : World} {e : Option Addr} {n ce R B FT FB : Nat} (n10 : n ≤ 10) (hQ : Hid (∀ FB FT PU PV B X, CfI w0 X FB e n ce FT PU PV (List.replicate n (-1)) (List.replicate n 0) (List.replicate n 0) → Q .normal ⟨#[.slice e n ce, undef, .slice none 0 0, .pointer (some ⟨R, 0, none⟩), .bool false, .int .i64 (n : Int), .pointer (some ⟨FB, 0, none⟩), undef, .slice e n ce, .bool true, .bool false, undef, .slice e n ce, .int .i64 (n : Int), .slice e n ce, .slice (some ⟨B, 0, none⟩) 1 1, .int .i64 (n : Int), .slice (some ⟨FT, 0, none⟩) n n, .int .i64 (n : Int), .slice (some ⟨PU, 0, none⟩) n n, .int .i64 (n : Int), .slice (some ⟨PV, 0, none⟩) n n, .agg #[.slice (some ⟨PU, 0, none⟩) n n, .slice (some ⟨PV, 0, none⟩) n n], .agg (fv e n ce FT PU PV), undef, undef, undef, undef, undef, undef, undef, undef, undef, undef, undef, undef, undef], []⟩ X)) (HBB : Hid (W.cell? ⟨B, 0, none⟩ = some (.int .i64 (-1)) ∧ B < W.heap.size)) (HFT : Hid (W.ownsRow w0.heap.size 3 1 (.slice (some ⟨FT, 0, none⟩) n n) n (ints (List.replicate n (-1))))) (HFB : Hid (Z4 W FB ∧ w0.heap.size ≤ FB)) (HBL : Hid (Below w0.heap.size w0 W)) (n3_10 : FT ≠ FB) :
    wpAnyH Try.prog .any ops4 (NoPanic Q) (fun _ => True) 5 #[true, true, true, true, true, false, true, false, false, false, true, false] ⟨#[.slice e n ce, undef, .slice none 0 0, .pointer (some ⟨R, 0, none⟩), .bool false, .int .i64 (n : Int), .pointer (some ⟨FB, 0, none⟩), undef, .slice e n ce, .bool true, .bool false, undef, .slice e n ce, .int .i64 (n : Int), .slice e n ce, .slice (some ⟨B, 0, none⟩) 1 1, .int .i64 (n : Int), .slice (some ⟨FT, 0, none⟩) n n, .int .i64 (n : Int), undef, .int .i64 (n : Int), undef, undef, undef, undef, undef, undef, undef, undef, undef, undef, undef, undef, undef, undef, undef, undef], []⟩ W := by
  have hmk := makeI_run n (by omega)
  unfold ops4
  refine wpAnyH_ready (rs := [5, 7]) (by kernel_rfl) (by simp) ?_
  refine AllReadyH.cons (o := ⟨some 19, _, _, _, _, none⟩) rfl (fun K hK => ?_) (AllReadyH.cons (o := ⟨some 21, _, _, _, _, none⟩) rfl (fun K hK => ?_) (AllReadyH.nil))
  · have l1 := HBB.out.2
    have l3 := (HFT.out.lt FT rfl).2
    have l10 := HFB.out.1.lt
    have hsz := HBL.out.size
    have hb' := below_new W (.cells (madeCells #[.int .i64 0] n) 3)
    have HBBn := hide (cm1_below HBB.out hb')
    have HFTn := hide (g_own HFT.out hb')
    have HFBn := hide ((⟨HFB.out.1.below hb', HFB.out.2⟩ : _ ∧ _))
    have HBLn := hide (HBL.out.trans (hb'.mono HBL.out.size))
    have HPUn : Hid ((W.alloc (.cells (madeCells #[.int .i64 0] n) 3)).ownsRow w0.heap.size 3 1 (.slice (some ⟨W.heap.size, 0, none⟩) n n) n (ints (List.replicate n 0))) := hide (own_low9 (made_own W n (by omega)) HBL.out.size)
    go_simp
    refine hK.out _ _ trivial (fun _ => ?_)
    clear hK K hb'
    clear HBL HBB HFT HFB hmk
    exact cfd_1_3_5_10 n10 hQ HBBn HFTn HPUn HFBn HBLn (by omega) n3_10 (by omega)
  · have l1 := HBB.out.2
    have l3 := (HFT.out.lt FT rfl).2
    have l10 := HFB.out.1.lt
    have hsz := HBL.out.size
    have hb' := below_new W (.cells (madeCells #[.int .i64 0] n) 3)
    have HBBn := hide (cm1_below HBB.out hb')
    have HFTn := hide (g_own HFT.out hb')
    have HFBn := hide ((⟨HFB.out.1.below hb', HFB.out.2⟩ : _ ∧ _))
    have HBLn := hide (HBL.out.trans (hb'.mono HBL.out.size))
    have HPVn : Hid ((W.alloc (.cells (madeCells #[.int .i64 0] n) 3)).ownsRow w0.heap.size 3 1 (.slice (some ⟨W.heap.size, 0, none⟩) n n) n (ints (List.replicate n 0))) := hide (own_low9 (made_own W n (by omega)) HBL.out.size)
    go_simp
    refine hK.out _ _ trivial (fun _ => ?_)
    clear hK K hb'
    clear HBL HBB HFT HFB hmk
    exact cfd_1_3_7_10 n10 hQ HBBn HFTn HPVn HFBn HBLn (by omega) n3_10 (by omega)
set_option maxRecDepth 20000 in
set_option maxHeartbeats 4000000 in
theorem cfd_5_7 {Q : Exit → Act → World → Prop} {w0 W : World} {e : Option Addr} {n ce R PU PV : Nat} (n10 : n ≤ 10) (hQ : Hid (∀ FB FT PU PV B X, CfI w0 X FB e n ce FT PU PV (List.replicate n (-1)) (List.replicate n 0) (List.replicate n 0) → Q .normal ⟨#[.slice e n ce, undef, .slice none 0 0, .pointer (some ⟨R, 0, none⟩), .bool false, .int .i64 (n : Int), .pointer (some ⟨FB, 0, none⟩), undef, .slice e n ce, .bool true, .bool false, undef, .slice e n ce, .int .i64 (n : Int), .slice e n ce, .slice (some ⟨B, 0, none⟩) 1 1, .int .i64 (n : Int), .slice (some ⟨FT, 0, none⟩) n n, .int .i64 (n : Int), .slice (some ⟨PU, 0, none⟩) n n, .int .i64 (n : Int), .slice (some ⟨PV, 0, none⟩) n n, .agg #[.slice (some ⟨PU, 0, none⟩) n n, .slice (some ⟨PV, 0, none⟩) n n], .agg (fv e n ce FT PU PV), undef, undef, undef, undef, undef, undef, undef, undef, undef, undef, undef, undef, undef], []⟩ X)) (HPU : Hid (W.ownsRow w0.heap.size 3 1 (.slice (some ⟨PU, 0, none⟩) n n) n (ints (List.replicate n 0)))) (HPV : Hid (W.ownsRow w0.heap.size 3 1 (.slice (some ⟨PV, 0, none⟩) n n) n (ints (List.replicate n 0)))) (HBL : Hid (Below w0.heap.size w0 W)) (n5_7 : PU ≠ PV) :
    wpAnyH Try.prog .any ops4 (NoPanic Q) (fun _ => True) 5 #[true, false, true, false, true, true, true, true, true, false, false, false] ⟨#[.slice e n ce, undef, .slice none 0 0, .pointer (some ⟨R, 0, none⟩), .bool false, .int .i64 (n : Int), undef, undef, .slice e n ce, .bool true, .bool false, undef, .slice e n ce, .int .i64 (n : Int), .slice e n ce, undef, .int .i64 (n : Int), undef, .int .i64 (n : Int), .slice (some ⟨PU, 0, none⟩) n n, .int .i64 (n : Int), .slice (some ⟨PV, 0, none⟩) n n, .agg #[.slice (some ⟨PU, 0, none⟩) n n, .slice (some ⟨PV, 0, none⟩) n n], undef, undef, undef, undef, undef, undef, undef, undef, undef, undef, undef, undef, undef, undef], []⟩ W := by
  have hmk := makeI_run n (by omega)
  unfold ops4
  refine wpAnyH_ready (rs := [1, 10]) (by kernel_rfl) (by simp) ?_
  refine AllReadyH.cons (o := ⟨some 15, _, _, _, _, none⟩) rfl (fun K hK => ?_) (AllReadyH.cons (o := ⟨some 6, _, _, _, _, none⟩) rfl (fun K hK => ?_) (AllReadyH.nil))
  · have l5 := (HPU.out.lt PU rfl).2
    have l7 := (HPV.out.lt PV rfl).2
    have hsz := HBL.out.size
    have hb' := below_new W (.cells #[.int .i64 (-1)] 3)
    have HPUn := hide (g_own HPU.out hb')
    have HPVn := hide (g_own HPV.out hb')
    have HBLn := hide (HBL.out.trans (hb'.mono HBL.out.size))
    have HBBn := hide (cm1_new W)
    go_simp
    refine hK.out _ _ trivial (fun _ => ?_)
    clear hK K hb'
    clear HBL HPU HPV hmk
    exact cfd_1_5_7 n10 hQ HBBn HPUn HPVn HBLn n5_7
  · have l5 := (HPU.out.lt PU rfl).2
    have l7 := (HPV.out.lt PV rfl).2
    have hsz := HBL.out.size
    have hb' := below_new W (.cells #[.slice none 0 0, .slice none 0 0, .slice none 0 0, .slice none 0 0] 52)
    have HPUn := hide (g_own HPU.out hb')
    have HPVn := hide (g_own HPV.out hb')
    have HBLn := hide (HBL.out.trans (hb'.mono HBL.out.size))
    have HFBn := hide (⟨Z4.new W 52, hsz⟩ : _ ∧ _)
    go_simp
    refine hK.out _ _ trivial (fun _ => ?_)
    clear hK K hb'
    clear HBL HPU HPV hmk
    exact cfd_5_7_10 n10 hQ HPUn HPVn HFBn HBLn n5_7 (by omega) (by omega)
set_option maxRecDepth 20000 in
set_option maxHeartbeats 4000000 in
theorem cfd_5_10 {Q : Exit → Act → World → Prop} {w0 W : World} {e : Option Addr} {n ce R PU FB : Nat} (n10 : n ≤ 10) (hQ : Hid (∀ FB FT PU PV B X, CfI w0 X FB e n ce FT PU PV (List.replicate n (-1)) (List.replicate n 0) (List.replicate n 0) → Q .normal ⟨#[.slice e n ce, undef, .slice none 0 0, .pointer (some ⟨R, 0, none⟩), .bool false, .int .i64 (n : Int), .pointer (some ⟨FB, 0, none⟩), undef, .slice e n ce, .bool true, .bool false, undef, .slice e n ce, .int .i64 (n : Int), .slice e n ce, .slice (some ⟨B, 0, none⟩) 1 1, .int .i64 (n : Int), .slice (some ⟨FT, 0, none⟩) n n, .int .i64 (n : Int), .slice (some ⟨PU, 0, none⟩) n n, .int .i64 (n : Int), .slice (some ⟨PV, 0, none⟩) n n, .agg #[.slice (some ⟨PU, 0, none⟩) n n, .slice (some ⟨PV, 0, none⟩) n n], .agg (fv e n ce FT PU PV), undef, undef, undef, undef, undef, undef, undef, undef, undef, undef, undef, undef, undef], []⟩ X)) (HPU : Hid (W.ownsRow w0.heap.size 3 1 (.slice (some ⟨PU, 0, none⟩) n n) n (ints (List.replicate n 0)))) (HFB : Hid (Z4 W FB ∧ w0.heap.size ≤ FB)) (HBL : Hid (Below w0.heap.size w0 W)) (n5_10 : PU ≠ FB) :
    wpAnyH Try.prog .any ops4 (NoPanic Q) (fun _ => True) 6 #[true, false, true, false, true, true, true, false, false, false, true, false] ⟨#[.slice e n ce, undef, .slice none 0 0, .pointer (some ⟨R, 0, none⟩), .bool false, .int .i64 (n : Int), .pointer (some ⟨FB, 0, none⟩), undef, .slice e n ce, .bool true, .bool false, undef, .slice e n ce, .int .i64 (n : Int), .slice e n ce, undef, .int .i64 (n : Int), undef, .int .i64 (n : Int), .slice (some ⟨PU, 0, none⟩) n n, .int .i64 (n : Int), undef, undef, undef, undef, undef, undef, undef, undef, undef, undef, undef, undef, undef, undef, undef, undef], []⟩ W := by
  have hmk := makeI_run n (by omega)
  unfold ops4
  refine wpAnyH_ready (rs := [1, 7]) (by kernel_rfl) (by simp) ?_
  refine AllReadyH.cons (o := ⟨some 15, _, _, _, _, none⟩) rfl (fun K hK => ?_) (AllReadyH.cons (o := ⟨some 21, _, _, _, _, none⟩) rfl (fun K hK => ?_) (AllReadyH.nil))
  · have l5 := (HPU.out.lt PU rfl).2
    have l10 := HFB.out.1.lt
    have hsz := HBL.out.size
    have hb' := below_new W (.cells #[.int .i64 (-1)] 3)
    have HPUn := hide (g_own HPU.out hb')
    have HFBn := hide ((⟨HFB.out.1.below hb', HFB.out.2⟩ : _ ∧ _))
    have HBLn := hide (HBL.out.trans (hb'.mono HBL.out.size))
    have HBBn := hide (cm1_new W)
    go_simp
    refine hK.out _ _ trivial (fun _ => ?_)
    clear hK K hb'
    clear HBL HPU HFB hmk
    exact cfd_1_5_10 n10 hQ HBBn HPUn HFBn HBLn n5_10
  · have l5 := (HPU.out.lt PU rfl).2
    have l10 := HFB.out.1.lt
    have hsz := HBL.out.size
    have hb' := below_new W (.cells (madeCells #[.int .i64 0] n) 3)
    have HPUn := hide (g_own HPU.out hb')
    have HFBn := hide ((⟨HFB.out.1.below hb', HFB.out.2⟩ : _ ∧ _))
    have HBLn := hide (HBL.out.trans (hb'.mono HBL.out.size))
    have HPVn : Hid ((W.alloc (.cells (madeCells #[.int .i64 0] n) 3)).ownsRow w0.heap.size 3 1 (.slice (some ⟨W.heap.size, 0, none⟩) n n) n (ints (List.replicate n 0))) := hide (own_low9 (made_own W n (by omega)) HBL.out.size)
    go_simp
    refine hK.out _ _ trivial (fun _ => ?_)
    clear hK K hb'
    clear HBL HPU HFB hmk
    simp only [List.setIfInBounds_toArray, List.set_cons_zero, List.set_cons_succ]
    refine wpAnyH_take (i := 8) (oi := ⟨some 22, _, _, _, _, none⟩) (v := .agg #[.slice (some ⟨PU, 0, none⟩) n n, .slice (some ⟨W.heap.size, 0, none⟩) n n]) rfl (by kernel_rfl) (by kernel_rfl) (by kernel_rfl) (fun _ _ _ h => h) (Or.inl ⟨by rfl, fun w' hSw => by clear hSw; go_simp⟩) trivial ?_
    simp only [Act.put, List.setIfInBounds_toArray, List.set_cons_zero, List.set_cons_succ]
    exact cfd_5_7_10 n10 hQ HPUn HPVn HFBn HBLn (by omega) n5_10 (by omega)
set_option maxRecDepth 20000 in
set_option maxHeartbeats 4000000 in
theorem cfd_7_10 {Q : Exit → Act → World → Prop} {w0 W : World} {e : Option Addr} {n ce R PV FB : Nat} (n10 : n ≤ 10) (hQ : Hid (∀ FB FT PU PV B X, CfI w0 X FB e n ce FT PU PV (List.replicate n (-1)) (List.replicate n 0) (List.replicate n 0) → Q .normal ⟨#[.slice e n ce, undef, .slice none 0 0, .pointer (some ⟨R, 0, none⟩), .bool false, .int .i64 (n : Int), .pointer (some ⟨FB, 0, none⟩), undef, .slice e n ce, .bool true, .bool false, undef, .slice e n ce, .int .i64 (n : Int), .slice e n ce, .slice (some ⟨B, 0, none⟩) 1 1, .int .i64 (n : Int), .slice (some ⟨FT, 0, none⟩) n n, .int .i64 (n : Int), .slice (some ⟨PU, 0, none⟩) n n, .int .i64 (n : Int), .slice (some ⟨PV, 0, none⟩) n n, .agg #[.slice (some ⟨PU, 0, none⟩) n n, .slice (some ⟨PV, 0, none⟩) n n], .agg (fv e n ce FT PU PV), undef, undef, undef, undef, undef, undef, undef, undef, undef, undef, undef, undef, undef], []⟩ X)) (HPV : Hid (W.ownsRow w0.heap.size 3 1 (.slice (some ⟨PV, 0, none⟩) n n) n (ints (List.replicate n 0)))) (HFB : Hid (Z4 W FB ∧ w0.heap.size ≤ FB)) (HBL : Hid (Below w0.heap.size w0 W)) (n7_10 : PV ≠ FB) :
    wpAnyH Try.prog .any ops4 (NoPanic Q) (fun _ => True) 6 #[true, false, true, false, true, false, true, true, false, false, true, false] ⟨#[.slice e n ce, undef, .slice none 0 0, .pointer (some ⟨R, 0, none⟩), .bool false, .int .i64 (n : Int), .pointer (some ⟨FB, 0, none⟩), undef, .slice e n ce, .bool true, .bool false, undef, .slice e n ce, .int .i64 (n : Int), .slice e n ce, undef, .int .i64 (n : Int), undef, .int .i64 (n : Int), undef, .int .i64 (n : Int), .slice (some ⟨PV, 0, none⟩) n n, undef, undef, undef, undef, undef, undef, undef, undef, undef, undef, undef, undef, undef, undef, undef], []⟩ W := by
  have hmk := makeI_run n (by omega)
  unfold ops4
  refine wpAnyH_ready (rs := [1, 5]) (by kernel_rfl) (by simp) ?_
  refine AllReadyH.cons (o := ⟨some 15, _, _, _, _, none⟩) rfl (fun K hK => ?_) (AllReadyH.cons (o := ⟨some 19, _, _, _, _, none⟩) rfl (fun K hK => ?_) (AllReadyH.nil))
  · have l7 := (HPV.out.lt PV rfl).2
    have l10 := HFB.out.1.lt
    have hsz := HBL.out.size
    have hb' := below_new W (.cells #[.int .i64 (-1)] 3)
    have HPVn := hide (g_own HPV.out hb')
    have HFBn := hide ((⟨HFB.out.1.below hb', HFB.out.2⟩ : _ ∧ _))
    have HBLn := hide (HBL.out.trans (hb'.mono HBL.out.size))
    have HBBn := hide (cm1_new W)
    go_simp
    refine hK.out _ _ trivial (fun _ => ?_)
    clear hK K hb'
    clear HBL HPV HFB hmk
    exact cfd_1_7_10 n10 hQ HBBn HPVn HFBn HBLn n7_10
  · have l7 := (HPV.out.lt PV rfl).2
    have l10 := HFB.out.1.lt
    have hsz := HBL.out.size
    have hb' := below_new W (.cells (madeCells #[.int .i64 0] n) 3)
    have HPVn := hide (g_own HPV.out hb')
    have HFBn := hide ((⟨HFB.out.1.below hb', HFB.out.2⟩ : _ ∧ _))
    have HBLn := hide (HBL.out.trans (hb'.mono HBL.out.size))
    have HPUn : Hid ((W.alloc (.cells (madeCells #[.int .i64 0] n) 3)).ownsRow w0.heap.size 3 1 (.slice (some ⟨W.heap.size, 0, none⟩) n n) n (ints (List.replicate n 0))) := hide (own_low9 (made_own W n (by omega)) HBL.out.size)
    go_simp
    refine hK.out _ _ trivial (fun _ => ?_)
    clear hK K hb'
    clear HBL HPV HFB hmk
    simp only [List.setIfInBounds_toArray, List.set_cons_zero, List.set_cons_succ]
    refine wpAnyH_take (i := 8) (oi := ⟨some 22, _, _, _, _, none⟩) (v := .agg #[.slice (some ⟨W.heap.size, 0, none⟩) n n, .slice (some ⟨PV, 0, none⟩) n n]) rfl (by kernel_rfl) (by kernel_rfl) (by kernel_rfl) (fun _ _ _ h => h) (Or.inl ⟨by rfl, fun w' hSw => by clear hSw; go_simp⟩) trivial ?_
    simp only [Act.put, List.setIfInBounds_toArray, List.set_cons_zero, List.set_cons_succ]
    exact cfd_5_7_10 n10 hQ HPUn HPVn HFBn HBLn (by omega) (by omega) n7_10
set_option maxRecDepth 20000 in
set_option maxHeartbeats 4000000 in
theorem cfd_1_5 {Q : Exit → Act → World → Prop} {w0 W : World} {e : Option Addr} {n ce R B PU : Nat} (n10 : n ≤ 10) (hQ : Hid (∀ FB FT PU PV B X, CfI w0 X FB e n ce FT PU PV (List.replicate n (-1)) (List.replicate n 0) (List.replicate n 0) → Q .normal ⟨#[.slice e n ce, undef, .slice none 0 0, .pointer (some ⟨R, 0, none⟩), .bool false, .int .i64 (n : Int), .pointer (some ⟨FB, 0, none⟩), undef, .slice e n ce, .bool true, .bool false, undef, .slice e n ce, .int .i64 (n : Int), .slice e n ce, .slice (some ⟨B, 0, none⟩) 1 1, .int .i64 (n : Int), .slice (some ⟨FT, 0, none⟩) n n, .int .i64 (n : Int), .slice (some ⟨PU, 0, none⟩) n n, .int .i64 (n : Int), .slice (some ⟨PV, 0, none⟩) n n, .agg #[.slice (some ⟨PU, 0, none⟩) n n, .slice (some ⟨PV, 0, none⟩) n n], .agg (fv e n ce FT PU PV), undef, undef, undef, undef, undef, undef, undef, undef, undef, undef, undef, undef, undef], []⟩ X)) (HBB : Hid (W.cell? ⟨B, 0, none⟩ = some (.int .i64 (-1)) ∧ B < W.heap.size)) (HPU : Hid (W.ownsRow w0.heap.size 3 1 (.slice (some ⟨PU, 0, none⟩) n n) n (ints (List.replicate n 0)))) (HBL : Hid (Below w0.heap.size w0 W)) :
    wpAnyH Try.prog .any ops4 (NoPanic Q) (fun _ => True) 6 #[true, true, true, false, true, true, true, false, false, false, false, false] ⟨#[.slice e n ce, undef, .slice none 0 0, .pointer (some ⟨R, 0, none⟩), .bool false, .int .i64 (n : Int), undef, undef, .slice e n ce, .bool true, .bool false, undef, .slice e n ce, .int .i64 (n : Int), .slice e n ce, .slice (some ⟨B, 0, none⟩) 1 1, .int .i64 (n : Int), undef, .int .i64 (n : Int), .slice (some ⟨PU, 0, none⟩) n n, .int .i64 (n : Int), undef, undef, undef, undef, undef, undef, undef, undef, undef, undef, undef, undef, undef, undef, undef, undef], []⟩ W := by
  have hmk := makeI_run n (by omega)
  unfold ops4
  refine wpAnyH_ready (rs := [3, 7, 10]) (by kernel_rfl) (by simp) ?_
  refine AllReadyH.cons (o := ⟨some 17, _, _, _, _, none⟩) rfl (fun K hK => ?_) (AllReadyH.cons (o := ⟨some 21, _, _, _, _, none⟩) rfl (fun K hK => ?_) (AllReadyH.cons (o := ⟨some 6, _, _, _, _, none⟩) rfl (fun K hK => ?_) (AllReadyH.nil)))
  · have l1 := HBB.out.2
    have l5 := (HPU.out.lt PU rfl).2
    have hsz := HBL.out.size
    go_simp
    refine (rp_any n10 HBB.out.1 HBB.out.2).mono ?_
    rintro e' x1 ⟨rfl, hb', own'⟩
    have HBBn := hide (cm1_below HBB.out hb')
    have HPUn := hide (g_own HPU.out hb')
    have HBLn := hide (HBL.out.trans (hb'.mono HBL.out.size))
    have HFTn : Hid (x1.ownsRow w0.heap.size 3 1 (.slice (some ⟨W.heap.size, 0, none⟩) n n) n (ints (List.replicate n (-1)))) := hide (own_low9 own' HBL.out.size)
    refine hK.out _ _ trivial (fun _ => ?_)
    clear hK K hb' own'
    clear HBL HBB HPU hmk
    exact cfd_1_3_5 n10 hQ HBBn HFTn HPUn HBLn (by omega)
  · have l1 := HBB.out.2
    have l5 := (HPU.out.lt PU rfl).2
    have hsz := HBL.out.size
    have hb' := below_new W (.cells (madeCells #[.int .i64 0] n) 3)
    have HBBn := hide (cm1_below HBB.out hb')
    have HPUn := hide (g_own HPU.out hb')
    have HBLn := hide (HBL.out.trans (hb'.mono HBL.out.size))
    have HPVn : Hid ((W.alloc (.cells (madeCells #[.int .i64 0] n) 3)).ownsRow w0.heap.size 3 1 (.slice (some ⟨W.heap.size, 0, none⟩) n n) n (ints (List.replicate n 0))) := hide (own_low9 (made_own W n (by omega)) HBL.out.size)
    go_simp
    refine hK.out _ _ trivial (fun _ => ?_)
    clear hK K hb'
    clear HBL HBB HPU hmk
    simp only [List.setIfInBounds_toArray, List.set_cons_zero, List.set_cons_succ]
    refine wpAnyH_take (i := 8) (oi := ⟨some 22, _, _, _, _, none⟩) (v := .agg #[.slice (some ⟨PU, 0, none⟩) n n, .slice (some ⟨W.heap.size, 0, none⟩) n n]) rfl (by kernel_rfl) (by kernel_rfl) (by kernel_rfl) (fun _ _ _ h => h) (Or.inl ⟨by rfl, fun w' hSw => by clear hSw; go_simp⟩) trivial ?_
    simp only [Act.put, List.setIfInBounds_toArray, List.set_cons_zero, List.set_cons_succ]
    exact cfd_1_5_7 n10 hQ HBBn HPUn HPVn HBLn (by omega)
  · have l1 := HBB.out.2
    have l5 := (HPU.out.lt PU rfl).2
    have hsz := HBL.out.size
    have hb' := below_new W (.cells #[.slice none 0 0, .slice none 0 0, .slice none 0 0, .slice none 0 0] 52)
    have HBBn := hide (cm1_below HBB.out hb')
    have HPUn := hide (g_own HPU.out hb')
    have HBLn := hide (HBL.out.trans (hb'.mono HBL.out.size))
    have HFBn := hide (⟨Z4.new W 52, hsz⟩ : _ ∧ _)
    go_simp
    refine hK.out _ _ trivial (fun _ => ?_)
    clear hK K hb'
    clear HBL HBB HPU hmk
    exact cfd_1_5_10 n10 hQ HBBn HPUn HFBn HBLn (by omega)
set_option maxRecDepth 20000 in
set_option maxHeartbeats 4000000 in
theorem cfd_1_7 {Q : Exit → Act → World → Prop} {w0 W : World} {e : Option Addr} {n ce R B PV : Nat} (n10 : n ≤ 10) (hQ : Hid (∀ FB FT PU PV B X, CfI w0 X FB e n ce FT PU PV (List.replicate n (-1)) (List.replicate n 0) (List.replicate n 0) → Q .normal ⟨#[.slice e n ce, undef, .slice none 0 0, .pointer (some ⟨R, 0, none⟩), .bool false, .int .i64 (n : Int), .pointer (some ⟨FB, 0, none⟩), undef, .slice e n ce, .bool true, .bool false, undef, .slice e n ce, .int .i64 (n : Int), .slice e n ce, .slice (some ⟨B, 0, none⟩) 1 1, .int .i64 (n : Int), .slice (some ⟨FT, 0, none⟩) n n, .int .i64 (n : Int), .slice (some ⟨PU, 0, none⟩) n n, .int .i64 (n : Int), .slice (some ⟨PV, 0, none⟩) n n, .agg #[.slice (some ⟨PU, 0, none⟩) n n, .slice (some ⟨PV, 0, none⟩) n n], .agg (fv e n ce FT PU PV), undef, undef, undef, undef, undef, undef, undef, undef, undef, undef, undef, undef, undef], []⟩ X)) (HBB : Hid (W.cell? ⟨B, 0, none⟩ = some (.int .i64 (-1)) ∧ B < W.heap.size)) (HPV : Hid (W.ownsRow w0.heap.size 3 1 (.slice (some ⟨PV, 0, none⟩) n n) n (ints (List.replicate n 0)))) (HBL : Hid (Below w0.heap.size w0 W)) :
    wpAnyH Try.prog .any ops4 (NoPanic Q) (fun _ => True) 6 #[true, true, true, false, true, false, true, true, false, false, false, false] ⟨#[.slice e n ce, undef, .slice none 0 0, .pointer (some ⟨R, 0, none⟩), .bool false, .int .i64 (n : Int), undef, undef, .slice e n ce, .bool true, .bool false, undef, .slice e n ce, .int .i64 (n : Int), .slice e n ce, .slice (some ⟨B, 0, none⟩) 1 1, .int .i64 (n : Int), undef, .int .i64 (n : Int), undef, .int .i64 (n : Int), .slice (some ⟨PV, 0, none⟩) n n, undef, undef, undef, undef, undef, undef, undef, undef, undef, undef, undef, undef, undef, undef, undef], []⟩ W := by
  have hmk := makeI_run n (by omega)
  unfold ops4
  refine wpAnyH_ready (rs := [3, 5, 10]) (by kernel_rfl) (by simp) ?_
  refine AllReadyH.cons (o := ⟨some 17, _, _, _, _, none⟩) rfl (fun K hK => ?_) (AllReadyH.cons (o := ⟨some 19, _, _, _, _, none⟩) rfl (fun K hK => ?_) (AllReadyH.cons (o := ⟨some 6, _, _, _, _, none⟩) rfl (fun K hK => ?_) (AllReadyH.nil)))
  · have l1 := HBB.out.2
    have l7 := (HPV.out.lt PV rfl).2
    have hsz := HBL.out.size
    go_simp
    refine (rp_any n10 HBB.out.1 HBB.out.2).mono ?_
    rintro e' x1 ⟨rfl, hb', own'⟩
    have HBBn := hide (cm1_below HBB.out hb')
    have HPVn := hide (g_own HPV.out hb')
    have HBLn := hide (HBL.out.trans (hb'.mono HBL.out.size))
    have HFTn : Hid (x1.ownsRow w0.heap.size 3 1 (.slice (some ⟨W.heap.size, 0, none⟩) n n) n (ints (List.replicate n (-1)))) := hide (own_low9 own' HBL.out.size)
    refine hK.out _ _ trivial (fun _ => ?_)
    clear hK K hb' own'
    clear HBL HBB HPV hmk
    exact cfd_1_3_7 n10 hQ HBBn HFTn HPVn HBLn (by omega)
  · have l1 := HBB.out.2
    have l7 := (HPV.out.lt PV rfl).2
    have hsz := HBL.out.size
    have hb' := below_new W (.cells (madeCells #[.int .i64 0] n) 3)
    have HBBn := hide (cm1_below HBB.out hb')
    have HPVn := hide (g_own HPV.out hb')
    have HBLn := hide (HBL.out.trans (hb'.mono HBL.out.size))
    have HPUn : Hid ((W.alloc (.cells (madeCells #[.int .i64 0] n) 3)).ownsRow w0.heap.size 3 1 (.slice (some ⟨W.heap.size, 0, none⟩) n n) n (ints (List.replicate n 0))) := hide (own_low9 (made_own W n (by omega)) HBL.out.size)
    go_simp
    refine hK.out _ _ trivial (fun _ => ?_)
    clear hK K hb'
    clear HBL HBB HPV hmk
    simp only [List.setIfInBounds_toArray, List.set_cons_zero, List.set_cons_succ]
    refine wpAnyH_take (i := 8) (oi := ⟨some 22, _, _, _, _, none⟩) (v := .agg #[.slice (some ⟨W.heap.size, 0, none⟩) n n, .slice (some ⟨PV, 0, none⟩) n n]) rfl (by kernel_rfl) (by kernel_rfl) (by kernel_rfl) (fun _ _ _ h => h) (Or.inl ⟨by rfl, fun w' hSw => by clear hSw; go_simp⟩) trivial ?_
    simp only [Act.put, List.setIfInBounds_toArray, List.set_cons_zero, List.set_cons_succ]
    exact cfd_1_5_7 n10 hQ HBBn HPUn HPVn HBLn (by omega)
  · have l1 := HBB.out.2
    have l7 := (HPV.out.lt PV rfl).2
    have hsz := HBL.out.size
    have hb' := below_new W (.cells #[.slice none 0 0, .slice none 0 0, .slice none 0 0, .slice none 0 0] 52)
    have HBBn := hide (cm1_below HBB.out hb')
    have HPVn := hide (g_own HPV.out hb')
    have HBLn := hide (HBL.out.trans (hb'.mono HBL.out.size))
    have HFBn := hide (⟨Z4.new W 52, hsz⟩ : _ ∧ _)
    go_simp
    refine hK.out _ _ trivial (fun _ => ?_)
    clear hK K hb'
    clear HBL HBB HPV hmk
    exact cfd_1_7_10 n10 hQ HBBn HPVn HFBn HBLn (by omega)
set_option maxRecDepth 20000 in
set_option maxHeartbeats 4000000 in
theorem cfd_1_10 {Q : Exit → Act → World → Prop} {w0 W : World} {e : Option Addr} {n ce R B FB : Nat} (n10 : n ≤ 10) (hQ : Hid (∀ FB FT PU PV B X, CfI w0 X FB e n ce FT PU PV (List.replicate n (-1)) (List.replicate n 0) (List.replicate n 0) → Q .normal ⟨#[.slice e n ce, undef, .slice none 0 0, .pointer (some ⟨R, 0, none⟩), .bool false, .int .i64 (n : Int), .pointer (some ⟨FB, 0, none⟩), undef, .slice e n ce, .bool true, .bool false, undef, .slice e n ce, .int .i64 (n : Int), .slice e n ce, .slice (some ⟨B, 0, none⟩) 1 1, .int .i64 (n : Int), .slice (some ⟨FT, 0, none⟩) n n, .int .i64 (n : Int), .slice (some ⟨PU, 0, none⟩) n n, .int .i64 (n : Int), .slice (some ⟨PV, 0, none⟩) n n, .agg #[.slice (some ⟨PU, 0, none⟩) n n, .slice (some ⟨PV, 0, none⟩) n n], .agg (fv e n ce FT PU PV), undef, undef, undef, undef, undef, undef, undef, undef, undef, undef, undef, undef, undef], []⟩ X)) (HBB : Hid (W.cell? ⟨B, 0, none⟩ = some (.int .i64 (-1)) ∧ B < W.heap.size)) (HFB : Hid (Z4 W FB ∧ w0.heap.size ≤ FB)) (HBL : Hid (Below w0.heap.size w0 W)) :
    wpAnyH Try.prog .any ops4 (NoPanic Q) (fun _ => True) 6 #[true, true, true, false, true, false, true, false, false, false, true, false] ⟨#[.slice e n ce, undef, .slice none 0 0, .pointer (some ⟨R, 0, none⟩), .bool false, .int .i64 (n : Int), .pointer (some ⟨FB, 0, none⟩), undef, .slice e n ce, .bool true, .bool false, undef, .slice e n ce, .int .i64 (n : Int), .slice e n ce, .slice (some ⟨B, 0, none⟩) 1 1, .int .i64 (n : Int), undef, .int .i64 (n : Int), undef, .int .i64 (n : Int), undef, undef, undef, undef, undef, undef, undef, undef, undef, undef, undef, undef, undef, undef, undef, undef], []⟩ W := by
  have hmk := makeI_run n (by omega)
  unfold ops4
  refine wpAnyH_ready (rs := [3, 5, 7]) (by kernel_rfl) (by simp) ?_
  refine AllReadyH.cons (o := ⟨some 17, _, _, _, _, none⟩) rfl (fun K hK => ?_) (AllReadyH.cons (o := ⟨some 19, _, _, _, _, none⟩) rfl (fun K hK => ?_) (AllReadyH.cons (o := ⟨some 21, _, _, _, _, none⟩) rfl (fun K hK => ?_) (AllReadyH.nil)))
  · have l1 := HBB.out.2
    have l10 := HFB.out.1.lt
    have hsz := HBL.out.size
    go_simp
    refine (rp_any n10 HBB.out.1 HBB.out.2).mono ?_
    rintro e' x1 ⟨rfl, hb', own'⟩
    have HBBn := hide (cm1_below HBB.out hb')
    have HFBn := hide ((⟨HFB.out.1.below hb', HFB.out.2⟩ : _ ∧ _))
    have HBLn := hide (HBL.out.trans (hb'.mono HBL.out.size))
    have HFTn : Hid (x1.ownsRow w0.heap.size 3 1 (.slice (some ⟨W.heap.size, 0, none⟩) n n) n (ints (List.replicate n (-1)))) := hide (own_low9 own' HBL.out.size)
    refine hK.out _ _ trivial (fun _ => ?_)
    clear hK K hb' own'
    clear HBL HBB HFB hmk
    exact cfd_1_3_10 n10 hQ HBBn HFTn HFBn HBLn (by omega)
  · have l1 := HBB.out.2
    have l10 := HFB.out.1.lt
    have hsz := HBL.out.size
    have hb' := below_new W (.cells (madeCells #[.int .i64 0] n) 3)
    have HBBn := hide (cm1_below HBB.out hb')
    have HFBn := hide ((⟨HFB.out.1.below hb', HFB.out.2⟩ : _ ∧ _))
    have HBLn := hide (HBL.out.trans (hb'.mono HBL.out.size))
    have HPUn : Hid ((W.alloc (.cells (madeCells #[.int .i64 0] n) 3)).ownsRow w0.heap.size 3 1 (.slice (some ⟨W.heap.size, 0, none⟩) n n) n (ints (List.replicate n 0))) := hide (own_low9 (made_own W n (by omega)) HBL.out.size)
    go_simp
    refine hK.out _ _ trivial (fun _ => ?_)
    clear hK K hb'
    clear HBL HBB HFB hmk
    exact cfd_1_5_10 n10 hQ HBBn HPUn HFBn HBLn (by omega)
  · have l1 := HBB.out.2
    have l10 := HFB.out.1.lt
    have hsz := HBL.out.size
    have hb' := below_new W (.cells (madeCells #[.int .i64 0] n) 3)
    have HBBn := hide (cm1_below HBB.out hb')
    have HFBn := hide ((⟨HFB.out.1.below hb', HFB.out.2⟩ : _ ∧ _))
    have HBLn := hide (HBL.out.trans (hb'.mono HBL.out.size))
    have HPVn : Hid ((W.alloc (.cells (madeCells #[.int .i64 0] n) 3)).ownsRow w0.heap.size 3 1 (.slice (some ⟨W.heap.size, 0, none⟩) n n) n (ints (List.replicate n 0))) := hide (own_low9 (made_own W n (by omega)) HBL.out.size)
    go_simp
    refine hK.out _ _ trivial (fun _ => ?_)
    clear hK K hb'
    clear HBL HBB HFB hmk
    exact cfd_1_7_10 n10 hQ HBBn HPVn HFBn HBLn (by omega)
set_option maxRecDepth 20000 in
set_option maxHeartbeats 4000000 in
theorem cfd_1_3 {Q : Exit → Act → World → Prop} {w0 W : World} {e : Option Addr} {n ce R B FT : Nat} (n10 : n ≤ 10) (hQ : Hid (∀ FB FT PU PV B X, CfI w0 X FB e n ce FT PU PV (List.replicate n (-1)) (List.replicate n 0) (List.replicate n 0) → Q .normal ⟨#[.slice e n ce, undef, .slice none 0 0, .pointer (some ⟨R, 0, none⟩), .bool false, .int .i64 (n : Int), .pointer (some ⟨FB, 0, none⟩), undef, .slice e n ce, .bool true, .bool false, undef, .slice e n ce, .int .i64 (n : Int), .slice e n ce, .slice (some ⟨B, 0, none⟩) 1 1, .int .i64 (n : Int), .slice (some ⟨FT, 0, none⟩) n n, .int .i64 (n : Int), .slice (some ⟨PU, 0, none⟩) n n, .int .i64 (n : Int), .slice (some ⟨PV, 0, none⟩) n n, .agg #[.slice (some ⟨PU, 0, none⟩) n n, .slice (some ⟨PV, 0, none⟩) n n], .agg (fv e n ce FT PU PV), undef, undef, undef, undef, undef, undef, undef, undef, undef, undef, undef, undef, undef], []⟩ X)) (HBB : Hid (W.cell? ⟨B, 0, none⟩ = some (.int .i64 (-1)) ∧ B < W.heap.size)) (HFT : Hid (W.ownsRow w0.heap.size 3 1 (.slice (some ⟨FT, 0, none⟩) n n) n (ints (List.replicate n (-1))))) (HBL : Hid (Below w0.heap.size w0 W)) :
    wpAnyH Try.prog .any ops4 (NoPanic Q) (fun _ => True) 6 #[true, true, true, true, true, false, true, false, false, false, false, false] ⟨#[.slice e n ce, undef, .slice none 0 0, .pointer (some ⟨R, 0, none⟩), .bool false, .int .i64 (n : Int), undef, undef, .slice e n ce, .bool true, .bool false, undef, .slice e n ce, .int .i64 (n : Int), .slice e n ce, .slice (some ⟨B, 0, none⟩) 1 1, .int .i64 (n : Int), .slice (some ⟨FT, 0, none⟩) n n, .int .i64 (n : Int), undef, .int .i64 (n : Int), undef, undef, undef, undef, undef, undef, undef, undef, undef, undef, undef, undef, undef, undef, undef, undef], []⟩ W := by
  have hmk := makeI_run n (by omega)
  unfold ops4
  refine wpAnyH_ready (rs := [5, 7, 10]) (by kernel_rfl) (by simp) ?_
  refine AllReadyH.cons (o := ⟨some 19, _, _, _, _, none⟩) rfl (fun K hK => ?_) (AllReadyH.cons (o := ⟨some 21, _, _, _, _, none⟩) rfl (fun K hK => ?_) (AllReadyH.cons (o := ⟨some 6, _, _, _, _, none⟩) rfl (fun K hK => ?_) (AllReadyH.nil)))
  · have l1 := HBB.out.2
    have l3 := (HFT.out.lt FT rfl).2
    have hsz := HBL.out.size
    have hb' := below_new W (.cells (madeCells #[.int .i64 0] n) 3)
    have HBBn := hide (cm1_below HBB.out hb')
    have HFTn := hide (g_own HFT.out hb')
    have HBLn := hide (HBL.out.trans (hb'.mono HBL.out.size))
    have HPUn : Hid ((W.alloc (.cells (madeCells #[.int .i64 0] n) 3)).ownsRow w0.heap.size 3 1 (.slice (some ⟨W.heap.size, 0, none⟩) n n) n (ints (List.replicate n 0))) := hide (own_low9 (made_own W n (by omega)) HBL.out.size)
    go_simp
    refine hK.out _ _ trivial (fun _ => ?_)
    clear hK K hb'
    clear HBL HBB HFT hmk
    exact cfd_1_3_5 n10 hQ HBBn HFTn HPUn HBLn (by omega)
  · have l1 := HBB.out.2
    have l3 := (HFT.out.lt FT rfl).2
    have hsz := HBL.out.size
    have hb' := below_new W (.cells (madeCells #[.int .i64 0] n) 3)
    have HBBn := hide (cm1_below HBB.out hb')
    have HFTn := hide (g_own HFT.out hb')
    have HBLn := hide (HBL.out.trans (hb'.mono HBL.out.size))
    have HPVn : Hid ((W.alloc (.cells (madeCells #[.int .i64 0] n) 3)).ownsRow w0.heap.size 3 1 (.slice (some ⟨W.heap.size, 0, none⟩) n n) n (ints (List.replicate n 0))) := hide (own_low9 (made_own W n (by omega)) HBL.out.size)
    go_simp
    refine hK.out _ _ trivial (fun _ => ?_)
    clear hK K hb'
    clear HBL HBB HFT hmk
    exact cfd_1_3_7 n10 hQ HBBn HFTn HPVn HBLn (by omega)
  · have l1 := HBB.out.2
    have l3 := (HFT.out.lt FT rfl).2
    have hsz := HBL.out.size
    have hb' := below_new W (.cells #[.slice none 0 0, .slice none 0 0, .slice none 0 0, .slice none 0 0] 52)
    have HBBn := hide (cm1_below HBB.out hb')
    have HFTn := hide (g_own HFT.out hb')
    have HBLn := hide (HBL.out.trans (hb'.mono HBL.out.size))
    have HFBn := hide (⟨Z4.new W 52, hsz⟩ : _ ∧ _)
    go_simp
    refine hK.out _ _ trivial (fun _ => ?_)
    clear hK K hb'
    clear HBL HBB HFT hmk
    exact cfd_1_3_10 n10 hQ HBBn HFTn HFBn HBLn (by omega)
set_option maxRecDepth 20000 in
set_option maxHeartbeats 4000000 in
theorem cfd_5 {Q : Exit → Act → World → Prop} {w0 W : World} {e : Option Addr} {n ce R PU : Nat} (n10 : n ≤ 10) (hQ : Hid (∀ FB FT PU PV B X, CfI w0 X FB e n ce FT PU PV (List.replicate n (-1)) (List.replicate n 0) (List.replicate n 0) → Q .normal ⟨#[.slice e n ce, undef, .slice none 0 0, .pointer (some ⟨R, 0, none⟩), .bool false, .int .i64 (n : Int), .pointer (some ⟨FB, 0, none⟩), undef, .slice e n ce, .bool true, .bool false, undef, .slice e n ce, .int .i64 (n : Int), .slice e n ce, .slice (some ⟨B, 0, none⟩) 1 1, .int .i64 (n : Int), .slice (some ⟨FT, 0, none⟩) n n, .int .i64 (n : Int), .slice (some ⟨PU, 0, none⟩) n n, .int .i64 (n : Int), .slice (some ⟨PV, 0, none⟩) n n, .agg #[.slice (some ⟨PU, 0, none⟩) n n, .slice (some ⟨PV, 0, none⟩) n n], .agg (fv e n ce FT PU PV), undef, undef, undef, undef, undef, undef, undef, undef, undef, undef, undef, undef, undef], []⟩ X)) (HPU : Hid (W.ownsRow w0.heap.size 3 1 (.slice (some ⟨PU, 0, none⟩) n n) n (ints (List.replicate n 0)))) (HBL : Hid (Below w0.heap.size w0 W)) :
    wpAnyH Try.prog .any ops4 (NoPanic Q) (fun _ => True) 7 #[true, false, true, false, true, true, true, false, false, false, false, false] ⟨#[.slice e n ce, undef, .slice none 0 0, .pointer (some ⟨R, 0, none⟩), .bool false, .int .i64 (n : Int), undef, undef, .slice e n ce, .bool true, .bool false, undef, .slice e n ce, .int .i64 (n : Int), .slice e n ce, undef, .int .i64 (n : Int), undef, .int .i64 (n : Int), .slice (some ⟨PU, 0, none⟩) n n, .int .i64 (n : Int), undef, undef, undef, undef, undef, undef, undef, undef, undef, undef, undef, undef, undef, undef, undef, undef], []⟩ W := by
  have hmk := makeI_run n (by omega)
  unfold ops4
  refine wpAnyH_ready (rs := [1, 7, 10]) (by kernel_rfl) (by simp) ?_
  refine AllReadyH.cons (o := ⟨some 15, _, _, _, _, none⟩) rfl (fun K hK => ?_) (AllReadyH.cons (o := ⟨some 21, _, _, _, _, none⟩) rfl (fun K hK => ?_) (AllReadyH.cons (o := ⟨some 6, _, _, _, _, none⟩) rfl (fun K hK => ?_) (AllReadyH.nil)))
  · have l5 := (HPU.out.lt PU rfl).2
    have hsz := HBL.out.size
    have hb' := below_new W (.cells #[.int .i64 (-1)] 3)
    have HPUn := hide (g_own HPU.out hb')
    have HBLn := hide (HBL.out.trans (hb'.mono HBL.out.size))
    have HBBn := hide (cm1_new W)
    go_simp
    refine hK.out _ _ trivial (fun _ => ?_)
    clear hK K hb'
    clear HBL HPU hmk
    exact cfd_1_5 n10 hQ HBBn HPUn HBLn 
  · have l5 := (HPU.out.lt PU rfl).2
    have hsz := HBL.out.size
    have hb' := below_new W (.cells (madeCells #[.int .i64 0] n) 3)
    have HPUn := hide (g_own HPU.out hb')
    have HBLn := hide (HBL.out.trans (hb'.mono HBL.out.size))
    have HPVn : Hid ((W.alloc (.cells (madeCells #[.int .i64 0] n) 3)).ownsRow w0.heap.size 3 1 (.slice (some ⟨W.heap.size, 0, none⟩) n n) n (ints (List.replicate n 0))) := hide (own_low9 (made_own W n (by omega)) HBL.out.size)
    go_simp
    refine hK.out _ _ trivial (fun _ => ?_)
    clear hK K hb'
    clear HBL HPU hmk
    simp only [List.setIfInBounds_toArray, List.set_cons_zero, List.set_cons_succ]
    refine wpAnyH_take (i := 8) (oi := ⟨some 22, _, _, _, _, none⟩) (v := .agg #[.slice (some ⟨PU, 0, none⟩) n n, .slice (some ⟨W.heap.size, 0, none⟩) n n]) rfl (by kernel_rfl) (by kernel_rfl) (by kernel_rfl) (fun _ _ _ h => h) (Or.inl ⟨by rfl, fun w' hSw => by clear hSw; go_simp⟩) trivial ?_
    simp only [Act.put, List.setIfInBounds_toArray, List.set_cons_zero, List.set_cons_succ]
    exact cfd_5_7 n10 hQ HPUn HPVn HBLn (by omega)
  · have l5 := (HPU.out.lt PU rfl).2
    have hsz := HBL.out.size
    have hb' := below_new W (.cells #[.slice none 0 0, .slice none 0 0, .slice none 0 0, .slice none 0 0] 52)
    have HPUn := hide (g_own HPU.out hb')
    have HBLn := hide (HBL.out.trans (hb'.mono HBL.out.size))
    have HFBn := hide (⟨Z4.new W 52, hsz⟩ : _ ∧ _)
    go_simp
    refine hK.out _ _ trivial (fun _ => ?_)
    clear hK K hb'
    clear HBL HPU hmk
    exact cfd_5_10 n10 hQ HPUn HFBn HBLn (by omega)
set_option maxRecDepth 20000 in
set_option maxHeartbeats 4000000 in
theorem cfd_7 {Q : Exit → Act → World → Prop} {w0 W : World} {e : Option Addr} {n ce R PV : Nat} (n10 : n ≤ 10) (hQ : Hid (∀ FB FT PU PV B X, CfI w0 X FB e n ce FT PU PV (List.replicate n (-1)) (List.replicate n 0) (List.replicate n 0) → Q .normal ⟨#[.slice e n ce, undef, .slice none 0 0, .pointer (some ⟨R, 0, none⟩), .bool false, .int .i64 (n : Int), .pointer (some ⟨FB, 0, none⟩), undef, .slice e n ce, .bool true, .bool false, undef, .slice e n ce, .int .i64 (n : Int), .slice e n ce, .slice (some ⟨B, 0, none⟩) 1 1, .int .i64 (n : Int), .slice (some ⟨FT, 0, none⟩) n n, .int .i64 (n : Int), .slice (some ⟨PU, 0, none⟩) n n, .int .i64 (n : Int), .slice (some ⟨PV, 0, none⟩) n n, .agg #[.slice (some ⟨PU, 0, none⟩) n n, .slice (some ⟨PV, 0, none⟩) n n], .agg (fv e n ce FT PU PV), undef, undef, undef, undef, undef, undef, undef, undef, undef, undef, undef, undef, undef], []⟩ X)) (HPV : Hid (W.ownsRow w0.heap.size 3 1 (.slice (some ⟨PV, 0, none⟩) n n) n (ints (List.replicate n 0)))) (HBL : Hid (Below w0.heap.size w0 W)) :
    wpAnyH Try.prog .any ops4 (NoPanic Q) (fun _ => True) 7 #[true, false, true, false, true, false, true, true, false, false, false, false] ⟨#[.slice e n ce, undef, .slice none 0 0, .pointer (some ⟨R, 0, none⟩), .bool false, .int .i64 (n : Int), undef, undef, .slice e n ce, .bool true, .bool false, undef, .slice e n ce, .int .i64 (n : Int), .slice e n ce, undef, .int .i64 (n : Int), undef, .int .i64 (n : Int), undef, .int .i64 (n : Int), .slice (some ⟨PV, 0, none⟩) n n, undef, undef, undef, undef, undef, undef, undef, undef, undef, undef, undef, undef, undef, undef, undef], []⟩ W := by
  have hmk := makeI_run n (by omega)
  unfold ops4
  refine wpAnyH_ready (rs := [1, 5, 10]) (by kernel_rfl) (by simp) ?_
  refine AllReadyH.cons (o := ⟨some 15, _, _, _, _, none⟩) rfl (fun K hK => ?_) (AllReadyH.cons (o := ⟨some 19, _, _, _, _, none⟩) rfl (fun K hK => ?_) (AllReadyH.cons (o := ⟨some 6, _, _, _, _, none⟩) rfl (fun K hK => ?_) (AllReadyH.nil)))
  · have l7 := (HPV.out.lt PV rfl).2
    have hsz := HBL.out.size
    have hb' := below_new W (.cells #[.int .i64 (-1)] 3)
    have HPVn := hide (g_own HPV.out hb')
    have HBLn := hide (HBL.out.trans (hb'.mono HBL.out.size))
    have HBBn := hide (cm1_new W)
    go_simp
    refine hK.out _ _ trivial (fun _ => ?_)
    clear hK K hb'
    clear HBL HPV hmk
    exact cfd_1_7 n10 hQ HBBn HPVn HBLn 
  · have l7 := (HPV.out.lt PV rfl).2
    have hsz := HBL.out.size
    have hb' := below_new W (.cells (madeCells #[.int .i64 0] n) 3)
    have HPVn := hide (g_own HPV.out hb')
    have HBLn := hide (HBL.out.trans (hb'.mono HBL.out.size))
    have HPUn : Hid ((W.alloc (.cells (madeCells #[.int .i64 0] n) 3)).ownsRow w0.heap.size 3 1 (.slice (some ⟨W.heap.size, 0, none⟩) n n) n (ints (List.replicate n 0))) := hide (own_low9 (made_own W n (by omega)) HBL.out.size)
    go_simp
    refine hK.out _ _ trivial (fun _ => ?_)
    clear hK K hb'
    clear HBL HPV hmk
    simp only [List.setIfInBounds_toArray, List.set_cons_zero, List.set_cons_succ]
    refine wpAnyH_take (i := 8) (oi := ⟨some 22, _, _, _, _, none⟩) (v := .agg #[.slice (some ⟨W.heap.size, 0, none⟩) n n, .slice (some ⟨PV, 0, none⟩) n n]) rfl (by kernel_rfl) (by kernel_rfl) (by kernel_rfl) (fun _ _ _ h => h) (Or.inl ⟨by rfl, fun w' hSw => by clear hSw; go_simp⟩) trivial ?_
    simp only [Act.put, List.setIfInBounds_toArray, List.set_cons_zero, List.set_cons_succ]
    exact cfd_5_7 n10 hQ HPUn HPVn HBLn (by omega)
  · have l7 := (HPV.out.lt PV rfl).2
    have hsz := HBL.out.size
    have hb' := below_new W (.cells #[.slice none 0 0, .slice none 0 0, .slice none 0 0, .slice none 0 0] 52)
    have HPVn := hide (g_own HPV.out hb')
    have HBLn := hide (HBL.out.trans (hb'.mono HBL.out.size))
    have HFBn := hide (⟨Z4.new W 52, hsz⟩ : _ ∧ _)
    go_simp
    refine hK.out _ _ trivial (fun _ => ?_)
    clear hK K hb'
    clear HBL HPV hmk
    exact cfd_7_10 n10 hQ HPVn HFBn HBLn (by omega)
set_option maxRecDepth 20000 in
set_option maxHeartbeats 4000000 in
theorem cfd_10 {Q : Exit → Act → World → Prop} {w0 W : World} {e : Option Addr} {n ce R FB : Nat} (n10 : n ≤ 10) (hQ : Hid (∀ FB FT PU PV B X, CfI w0 X FB e n ce FT PU PV (List.replicate n (-1)) (List.replicate n 0) (List.replicate n 0) → Q .normal ⟨#[.slice e n ce, undef, .slice none 0 0, .pointer (some ⟨R, 0, none⟩), .bool false, .int .i64 (n : Int), .pointer (some ⟨FB, 0, none⟩), undef, .slice e n ce, .bool true, .bool false, undef, .slice e n ce, .int .i64 (n : Int), .slice e n ce, .slice (some ⟨B, 0, none⟩) 1 1, .int .i64 (n : Int), .slice (some ⟨FT, 0, none⟩) n n, .int .i64 (n : Int), .slice (some ⟨PU, 0, none⟩) n n, .int .i64 (n : Int), .slice (some ⟨PV, 0, none⟩) n n, .agg #[.slice (some ⟨PU, 0, none⟩) n n, .slice (some ⟨PV, 0, none⟩) n n], .agg (fv e n ce FT PU PV), undef, undef, undef, undef, undef, undef, undef, undef, undef, undef, undef, undef, undef], []⟩ X)) (HFB : Hid (Z4 W FB ∧ w0.heap.size ≤ FB)) (HBL : Hid (Below w0.heap.size w0 W)) :
    wpAnyH Try.prog .any ops4 (NoPanic Q) (fun _ => True) 7 #[true, false, true, false, true, false, true, false, false, false, true, false] ⟨#[.slice e n ce, undef, .slice none 0 0, .pointer (some ⟨R, 0, none⟩), .bool false, .int .i64 (n : Int), .pointer (some ⟨FB, 0, none⟩), undef, .slice e n ce, .bool true, .bool false, undef, .slice e n ce, .int .i64 (n : Int), .slice e n ce, undef, .int .i64 (n : Int), undef, .int .i64 (n : Int), undef, .int .i64 (n : Int), undef, undef, undef, undef, undef, undef, undef, undef, undef, undef, undef, undef, undef, undef, undef, undef], []⟩ W := by
  have hmk := makeI_run n (by omega)
  unfold ops4
  refine wpAnyH_ready (rs := [1, 5, 7]) (by kernel_rfl) (by simp) ?_
  refine AllReadyH.cons (o := ⟨some 15, _, _, _, _, none⟩) rfl (fun K hK => ?_) (AllReadyH.cons (o := ⟨some 19, _, _, _, _, none⟩) rfl (fun K hK => ?_) (AllReadyH.cons (o := ⟨some 21, _, _, _, _, none⟩) rfl (fun K hK => ?_) (AllReadyH.nil)))
  · have l10 := HFB.out.1.lt
    have hsz := HBL.out.size
    have hb' := below_new W (.cells #[.int .i64 (-1)] 3)
    have HFBn := hide ((⟨HFB.out.1.below hb', HFB.out.2⟩ : _ ∧ _))
    have HBLn := hide (HBL.out.trans (hb'.mono HBL.out.size))
    have HBBn := hide (cm1_new W)
    go_simp
    refine hK.out _ _ trivial (fun _ => ?_)
    clear hK K hb'
    clear HBL HFB hmk
    exact cfd_1_10 n10 hQ HBBn HFBn HBLn 
  · have l10 := HFB.out.1.lt
    have hsz := HBL.out.size
    have hb' := below_new W (.cells (madeCells #[.int .i64 0] n) 3)
    have HFBn := hide ((⟨HFB.out.1.below hb', HFB.out.2⟩ : _ ∧ _))
    have HBLn := hide (HBL.out.trans (hb'.mono HBL.out.size))
    have HPUn : Hid ((W.alloc (.cells (madeCells #[.int .i64 0] n) 3)).ownsRow w0.heap.size 3 1 (.slice (some ⟨W.heap.size, 0, none⟩) n n) n (ints (List.replicate n 0))) := hide (own_low9 (made_own W n (by omega)) HBL.out.size)
    go_simp
    refine hK.out _ _ trivial (fun _ => ?_)
    clear hK K hb'
    clear HBL HFB hmk
    exact cfd_5_10 n10 hQ HPUn HFBn HBLn (by omega)
  · have l10 := HFB.out.1.lt
    have hsz := HBL.out.size
    have hb' := below_new W (.cells (madeCells #[.int .i64 0] n) 3)
    have HFBn := hide ((⟨HFB.out.1.below hb', HFB.out.2⟩ : _ ∧ _))
    have HBLn := hide (HBL.out.trans (hb'.mono HBL.out.size))
    have HPVn : Hid ((W.alloc (.cells (madeCells #[.int .i64 0] n) 3)).ownsRow w0.heap.size 3 1 (.slice (some ⟨W.heap.size, 0, none⟩) n n) n (ints (List.replicate n 0))) := hide (own_low9 (made_own W n (by omega)) HBL.out.size)
    go_simp
    refine hK.out _ _ trivial (fun _ => ?_)
    clear hK K hb'
    clear HBL HFB hmk
    exact cfd_7_10 n10 hQ HPVn HFBn HBLn (by omega)
set_option maxRecDepth 20000 in
set_option maxHeartbeats 4000000 in
theorem cfd_1 {Q : Exit → Act → World → Prop} {w0 W : World} {e : Option Addr} {n ce R B : Nat} (n10 : n ≤ 10) (hQ : Hid (∀ FB FT PU PV B X, CfI w0 X FB e n ce FT PU PV (List.replicate n (-1)) (List.replicate n 0) (List.replicate n 0) → Q .normal ⟨#[.slice e n ce, undef, .slice none 0 0, .pointer (some ⟨R, 0, none⟩), .bool false, .int .i64 (n : Int), .pointer (some ⟨FB, 0, none⟩), undef, .slice e n ce, .bool true, .bool false, undef, .slice e n ce, .int .i64 (n : Int), .slice e n ce, .slice (some ⟨B, 0, none⟩) 1 1, .int .i64 (n : Int), .slice (some ⟨FT, 0, none⟩) n n, .int .i64 (n : Int), .slice (some ⟨PU, 0, none⟩) n n, .int .i64 (n : Int), .slice (some ⟨PV, 0, none⟩) n n, .agg #[.slice (some ⟨PU, 0, none⟩) n n, .slice (some ⟨PV, 0, none⟩) n n], .agg (fv e n ce FT PU PV), undef, undef, undef, undef, undef, undef, undef, undef, undef, undef, undef, undef, undef], []⟩ X)) (HBB : Hid (W.cell? ⟨B, 0, none⟩ = some (.int .i64 (-1)) ∧ B < W.heap.size)) (HBL : Hid (Below w0.heap.size w0 W)) :
    wpAnyH Try.prog .any ops4 (NoPanic Q) (fun _ => True) 7 #[true, true, true, false, true, false, true, false, false, false, false, false] ⟨#[.slice e n ce, undef, .slice none 0 0, .pointer (some ⟨R, 0, none⟩), .bool false, .int .i64 (n : Int), undef, undef, .slice e n ce, .bool true, .bool false, undef, .slice e n ce, .int .i64 (n : Int), .slice e n ce, .slice (some ⟨B, 0, none⟩) 1 1, .int .i64 (n : Int), undef, .int .i64 (n : Int), undef, .int .i64 (n : Int), undef, undef, undef, undef, undef, undef, undef, undef, undef, undef, undef, undef, undef, undef, undef, undef], []⟩ W := by
  have hmk := makeI_run n (by omega)
  unfold ops4
  refine wpAnyH_ready (rs := [3, 5, 7, 10]) (by kernel_rfl) (by simp) ?_
  refine AllReadyH.cons (o := ⟨some 17, _, _, _, _, none⟩) rfl (fun K hK => ?_) (AllReadyH.cons (o := ⟨some 19, _, _, _, _, none⟩) rfl (fun K hK => ?_) (AllReadyH.cons (o := ⟨some 21, _, _, _, _, none⟩) rfl (fun K hK => ?_) (AllReadyH.cons (o := ⟨some 6, _, _, _, _, none⟩) rfl (fun K hK => ?_) (AllReadyH.nil))))
  · have l1 := HBB.out.2
    have hsz := HBL.out.size
    go_simp
    refine (rp_any n10 HBB.out.1 HBB.out.2).mono ?_
    rintro e' x1 ⟨rfl, hb', own'⟩
    have HBBn := hide (cm1_below HBB.out hb')
    have HBLn := hide (HBL.out.trans (hb'.mono HBL.out.size))
    have HFTn : Hid (x1.ownsRow w0.heap.size 3 1 (.slice (some ⟨W.heap.size, 0, none⟩) n n) n (ints (List.replicate n (-1)))) := hide (own_low9 own' HBL.out.size)
    refine hK.out _ _ trivial (fun _ => ?_)
    clear hK K hb' own'
    clear HBL HBB hmk
    exact cfd_1_3 n10 hQ HBBn HFTn HBLn 
  · have l1 := HBB.out.2
    have hsz := HBL.out.size
    have hb' := below_new W (.cells (madeCells #[.int .i64 0] n) 3)
    have HBBn := hide (cm1_below HBB.out hb')
    have HBLn := hide (HBL.out.trans (hb'.mono HBL.out.size))
    have HPUn : Hid ((W.alloc (.cells (madeCells #[.int .i64 0] n) 3)).ownsRow w0.heap.size 3 1 (.slice (some ⟨W.heap.size, 0, none⟩) n n) n (ints (List.replicate n 0))) := hide (own_low9 (made_own W n (by omega)) HBL.out.size)
    go_simp
    refine hK.out _ _ trivial (fun _ => ?_)
    clear hK K hb'
    clear HBL HBB hmk
    exact cfd_1_5 n10 hQ HBBn HPUn HBLn 
  · have l1 := HBB.out.2
    have hsz := HBL.out.size
    have hb' := below_new W (.cells (madeCells #[.int .i64 0] n) 3)
    have HBBn := hide (cm1_below HBB.out hb')
    have HBLn := hide (HBL.out.trans (hb'.mono HBL.out.size))
    have HPVn : Hid ((W.alloc (.cells (madeCells #[.int .i64 0] n) 3)).ownsRow w0.heap.size 3 1 (.slice (some ⟨W.heap.size, 0, none⟩) n n) n (ints (List.replicate n 0))) := hide (own_low9 (made_own W n (by omega)) HBL.out.size)
    go_simp
    refine hK.out _ _ trivial (fun _ => ?_)
    clear hK K hb'
    clear HBL HBB hmk
    exact cfd_1_7 n10 hQ HBBn HPVn HBLn 
  · have l1 := HBB.out.2
    have hsz := HBL.out.size
    have hb' := below_new W (.cells #[.slice none 0 0, .slice none 0 0, .slice none 0 0, .slice none 0 0] 52)
    have HBBn := hide (cm1_below HBB.out hb')
    have HBLn := hide (HBL.out.trans (hb'.mono HBL.out.size))
    have HFBn := hide (⟨Z4.new W 52, hsz⟩ : _ ∧ _)
    go_simp
    refine hK.out _ _ trivial (fun _ => ?_)
    clear hK K hb'
    clear HBL HBB hmk
    exact cfd_1_10 n10 hQ HBBn HFBn HBLn 
set_option maxRecDepth 20000 in
set_option maxHeartbeats 4000000 in
theorem cfd_0 {Q : Exit → Act → World → Prop} {w0 W : World} {e : Option Addr} {n ce R  : Nat} (n10 : n ≤ 10) (hQ : Hid (∀ FB FT PU PV B X, CfI w0 X FB e n ce FT PU PV (List.replicate n (-1)) (List.replicate n 0) (List.replicate n 0) → Q .normal ⟨#[.slice e n ce, undef, .slice none 0 0, .pointer (some ⟨R, 0, none⟩), .bool false, .int .i64 (n : Int), .pointer (some ⟨FB, 0, none⟩), undef, .slice e n ce, .bool true, .bool false, undef, .slice e n ce, .int .i64 (n : Int), .slice e n ce, .slice (some ⟨B, 0, none⟩) 1 1, .int .i64 (n : Int), .slice (some ⟨FT, 0, none⟩) n n, .int .i64 (n : Int), .slice (some ⟨PU, 0, none⟩) n n, .int .i64 (n : Int), .slice (some ⟨PV, 0, none⟩) n n, .agg #[.slice (some ⟨PU, 0, none⟩) n n, .slice (some ⟨PV, 0, none⟩) n n], .agg (fv e n ce FT PU PV), undef, undef, undef, undef, undef, undef, undef, undef, undef, undef, undef, undef, undef], []⟩ X)) (HBL : Hid (Below w0.heap.size w0 W)) :
    wpAnyH Try.prog .any ops4 (NoPanic Q) (fun _ => True) 8 #[true, false, true, false, true, false, true, false, false, false, false, false] ⟨#[.slice e n ce, undef, .slice none 0 0, .pointer (some ⟨R, 0, none⟩), .bool false, .int .i64 (n : Int), undef, undef, .slice e n ce, .bool true, .bool false, undef, .slice e n ce, .int .i64 (n : Int), .slice e n ce, undef, .int .i64 (n : Int), undef, .int .i64 (n : Int), undef, .int .i64 (n : Int), undef, undef, undef, undef, undef, undef, undef, undef, undef, undef, undef, undef, undef, undef, undef, undef], []⟩ W := by
  have hmk := makeI_run n (by omega)
  unfold ops4
  refine wpAnyH_ready (rs := [1, 5, 7, 10]) (by kernel_rfl) (by simp) ?_
  refine AllReadyH.cons (o := ⟨some 15, _, _, _, _, none⟩) rfl (fun K hK => ?_) (AllReadyH.cons (o := ⟨some 19, _, _, _, _, none⟩) rfl (fun K hK => ?_) (AllReadyH.cons (o := ⟨some 21, _, _, _, _, none⟩) rfl (fun K hK => ?_) (AllReadyH.cons (o := ⟨some 6, _, _, _, _, none⟩) rfl (fun K hK => ?_) (AllReadyH.nil))))
  · have hsz := HBL.out.size
    have hb' := below_new W (.cells #[.int .i64 (-1)] 3)
    have HBLn := hide (HBL.out.trans (hb'.mono HBL.out.size))
    have HBBn := hide (cm1_new W)
    go_simp
    refine hK.out _ _ trivial (fun _ => ?_)
    clear hK K hb'
    clear HBL  hmk
    exact cfd_1 n10 hQ HBBn HBLn 
  · have hsz := HBL.out.size
    have hb' := below_new W (.cells (madeCells #[.int .i64 0] n) 3)
    have HBLn := hide (HBL.out.trans (hb'.mono HBL.out.size))
    have HPUn : Hid ((W.alloc (.cells (madeCells #[.int .i64 0] n) 3)).ownsRow w0.heap.size 3 1 (.slice (some ⟨W.heap.size, 0, none⟩) n n) n (ints (List.replicate n 0))) := hide (own_low9 (made_own W n (by omega)) HBL.out.size)
    go_simp
    refine hK.out _ _ trivial (fun _ => ?_)
    clear hK K hb'
    clear HBL  hmk
    exact cfd_5 n10 hQ HPUn HBLn 
  · have hsz := HBL.out.size
    have hb' := below_new W (.cells (madeCells #[.int .i64 0] n) 3)
    have HBLn := hide (HBL.out.trans (hb'.mono HBL.out.size))
    have HPVn : Hid ((W.alloc (.cells (madeCells #[.int .i64 0] n) 3)).ownsRow w0.heap.size 3 1 (.slice (some ⟨W.heap.size, 0, none⟩) n n) n (ints (List.replicate n 0))) := hide (own_low9 (made_own W n (by omega)) HBL.out.size)
    go_simp
    refine hK.out _ _ trivial (fun _ => ?_)
    clear hK K hb'
    clear HBL  hmk
    exact cfd_7 n10 hQ HPVn HBLn 
  · have hsz := HBL.out.size
    have hb' := below_new W (.cells #[.slice none 0 0, .slice none 0 0, .slice none 0 0, .slice none 0 0] 52)
    have HBLn := hide (HBL.out.trans (hb'.mono HBL.out.size))
    have HFBn := hide (⟨Z4.new W 52, hsz⟩ : _ ∧ _)
    go_simp
    refine hK.out _ _ trivial (fun _ => ?_)
    clear hK K hb'
    clear HBL  hmk
    exact cfd_10 n10 hQ HFBn HBLn 
end Go.Proofs.Ytkebaklmkidfoaa
namespace Go.Proofs.Ytkebaklmkidfoaa
open Go.RowKit

set_option maxRecDepth 20000 in
set_option maxHeartbeats 20000000 in
theorem cf_yes {e : Option Addr} {n ce : Nat} {C : List (List Int)} {w : World} (hg : Hu.costB C = true) (hl : C.length = n) (hc : CRow w e C) :
    Calls Try.prog 6 #[.slice e n ce] w fun e w' => ∃ FT PU PV, e = .returned (.tuple #[.slice (some ⟨FT, 0, none⟩) n n, .agg #[.slice (some ⟨PU, 0, none⟩) n n, .slice (some ⟨PV, 0, none⟩) n n], .bool true]) ∧ CfO w w' n FT PU PV C := by
  have gl := Hu.costB_len hg
  rw [hl] at gl
  obtain ⟨n1, n10⟩ := gl
  have hG := Hu.costB_good hg
  rw [hl] at hG
  have HG := hide hg
  have HN := hide hl
  have HGd := hide hG
  have bn0 := below_new w (.cells #[.slice none 0 0, .slice none 0 0] 27)
  have hc1 := hc.below bn0
  have HGC := hide (gc_eq (w := w.alloc (.cells #[.slice none 0 0, .slice none 0 0] 27)) (c := ce) HN (hide hc1) HG)
  have r0 : (w.alloc (.cells #[.slice none 0 0, .slice none 0 0] 27)).cell? ⟨w.heap.size, 0, none⟩ = some (.slice none 0 0) := by simp
  have r1 : (w.alloc (.cells #[.slice none 0 0, .slice none 0 0] 27)).cell? ⟨w.heap.size, 1, none⟩ = some (.slice none 0 0) := by simp
  have r2 : (w.alloc (.cells #[.slice none 0 0, .slice none 0 0] 27)).frozen? ⟨w.heap.size, 0, none⟩ = false := by simp
  have r3 : (w.alloc (.cells #[.slice none 0 0, .slice none 0 0] 27)).frozen? ⟨w.heap.size, 1, none⟩ = false := by simp
  have hs0 : (w.alloc (.cells #[.slice none 0 0, .slice none 0 0] 27)).heap.size = w.heap.size + 1 := World.size_alloc _ _
  obtain ⟨w0, hw0⟩ : ∃ w0, w0 = w.alloc (.cells #[.slice none 0 0, .slice none 0 0] 27) := ⟨_, rfl⟩
  rw [← hw0] at bn0 hc1 HGC r0 r1 r2 r3 hs0
  have HW0 := hide hw0.symm
  have HB0 := hide bn0
  have HC1 := hide hc1
  clear bn0 hc hc1 hw0 hg hl hG
  go_enter Try.func6, Try.ntmps6
  go_upto_region 1 with fail
  rw [HW0.out]
  clear HW0
  go_wp2_with fail
  refine HGC.out.mono ?_
  rintro e1 w1 ⟨rfl, hw1⟩
  obtain rfl : w0 = w1 := hw1.symm
  clear HGC
  have hmk := makeI_run n (by omega)
  go_upto_region 4 with fail
  go_cut [6, 14, 15, 16, 17, 18, 19, 20, 21, 22, 23] (fun s6 _ _ _ _ _ _ _ _ _ _ wc => ∃ FB FT PU PV, s6 = .pointer (some ⟨FB, 0, none⟩) ∧ Hid (CfI w0 wc FB e n ce FT PU PV (List.replicate n (-1)) (List.replicate n 0) (List.replicate n 0)))
  case first =>
    have HBL : Hid (Below w0.heap.size w0 w0.drew) := hide (Below.refl _ _).drew
    refine wp_region_noPanic ?_
    refine wp_region_held_drew (S := fun _ => True) (by kernel_rfl) trivial (fun hHeld => ?_)
    clear hHeld
    refine wpAnyH_take (i := 0) (oi := ⟨some 14, _, _, _, _, none⟩) (v := .slice e n ce) rfl (by kernel_rfl) (by kernel_rfl) (by kernel_rfl) (fun _ _ _ h => h) (Or.inl ⟨by rfl, fun w' hSw => by clear hSw; go_simp⟩) trivial ?_
    simp only [Act.put, List.setIfInBounds_toArray, List.set_cons_zero, List.set_cons_succ]
    refine wpAnyH_take (i := 2) (oi := ⟨some 16, _, _, _, _, none⟩) (v := .int .i64 (n : Int)) rfl (by kernel_rfl) (by kernel_rfl) (by kernel_rfl) (fun _ _ _ h => h) (Or.inl ⟨by rfl, fun w' hSw => by clear hSw; go_simp⟩) trivial ?_
    simp only [Act.put, List.setIfInBounds_toArray, List.set_cons_zero, List.set_cons_succ]
    refine wpAnyH_take (i := 4) (oi := ⟨some 18, _, _, _, _, none⟩) (v := .int .i64 (n : Int)) rfl (by kernel_rfl) (by kernel_rfl) (by kernel_rfl) (fun _ _ _ h => h) (Or.inl ⟨by rfl, fun w' hSw => by clear hSw; go_simp⟩) trivial ?_
    simp only [Act.put, List.setIfInBounds_toArray, List.set_cons_zero, List.set_cons_succ]
    refine wpAnyH_take (i := 6) (oi := ⟨some 20, _, _, _, _, none⟩) (v := .int .i64 (n : Int)) rfl (by kernel_rfl) (by kernel_rfl) (by kernel_rfl) (fun _ _ _ h => h) (Or.inl ⟨by rfl, fun w' hSw => by clear hSw; go_simp⟩) trivial ?_
    simp only [Act.put, List.setIfInBounds_toArray, List.set_cons_zero, List.set_cons_succ]
    refine cfd_0 n10 (hide fun FB FT PU PV B X HCF => ?_) HBL
    go_wp2_with fail
    go_meet
    case rel => exact ⟨FB, FT, PU, PV, rfl, hide HCF⟩
  case rest =>
    obtain ⟨FB, FT, PU, PV, rfl, HCF⟩ := hcut
    have HCF0 : Hid (CfI w0 wc FB e n ce FT PU PV (Hu.fitR n (Hu.fitTo C n 0).o 0) (Hu.tab n (Hu.fitTo C n 0).u) (Hu.tab n (Hu.fitTo C n 0).v)) := hide (by rw [fitR_zero]; show CfI w0 wc FB e n ce FT PU PV _ (Hu.tab n fun _ => 0) (Hu.tab n fun _ => 0); rw [tab_zero]; exact HCF.out)
    clear HCF hmk
    go_wp2_with fail
    go_loopw [7, 26] (fun _ s wr => ∃ (k : Nat), s = .int .i64 k ∧ k ≤ n ∧ Hid (CfI w0 wr FB e n ce FT PU PV (Hu.fitR n (Hu.fitTo C n k).o k) (Hu.tab n (Hu.fitTo C n k).u) (Hu.tab n (Hu.fitTo C n k).v))) (fun _ s _ => n - (intOf s).toNat)
    case atStart => exact ⟨0, rfl, Nat.zero_le _, HCF0⟩
    case round =>
      clear HCF0
      obtain ⟨k, rfl, hk, HCF⟩ := hrel
      by_cases hlt : k < n
      · have i0 : (0 : Int) ≤ (k : Int) := by omega
        have i1 : (k : Int) < (n : Int) := by omega
        have f0 := HCF.out.f0
        have f1 := HCF.out.f1
        have f2 := HCF.out.f2
        have f3 := HCF.out.f3
        have HAL := hide (al_any (ce := ce) HG.out HN.out hlt (Hu.fit_ou HGd.out k hk) HGd.out HC1.out HCF.out.b0 HCF.out.n1 HCF.out.n2 HCF.out.n3 HCF.out.ft HCF.out.pu HCF.out.pv)
        go_wp2_with fail
        refine HAL.out.mono ?_
        rintro e2 w2 ⟨rfl, h1, h2, h3, h4⟩
        have HCN : Hid (CfI w0 w2 FB e n ce FT PU PV (Hu.fitR n (Hu.fitTo C n (k + 1)).o (k + 1)) (Hu.tab n (Hu.fitTo C n (k + 1)).u) (Hu.tab n (Hu.fitTo C n (k + 1)).v)) := hide (HCF.out.more h4 h1 h2 h3)
        clear h1 h2 h3 h4 HAL HCF f0 f1 f2 f3
        go_wp2_with fail
        go_roundw
        case rel => exact ⟨k + 1, by go_num, by omega, HCN⟩
        case measure => simp only [intOf]; omega
      · have hke : k = n := by omega
        subst hke
        have f1 := HCF.out.f1
        have f2 := HCF.out.f2
        have f3 := HCF.out.f3
        have hR : w.heap.size < w0.heap.size := by omega
        have q0 := (HCF.out.b0.cell (p := ⟨w.heap.size, 0, none⟩) hR).trans r0
        have q1 := (HCF.out.b0.cell (p := ⟨w.heap.size, 1, none⟩) hR).trans r1
        have q2 := (HCF.out.b0.frozen (p := ⟨w.heap.size, 0, none⟩) hR).trans r2
        have q3 := (HCF.out.b0.frozen (p := ⟨w.heap.size, 1, none⟩) hR).trans r3
        have HEND := hide fun d : Nat => CfO.make (d := d) (HB0.out) HCF.out hs0 (.slice (some ⟨PU, 0, none⟩) k k) (.slice (some ⟨PV, 0, none⟩) k k)
        have hne : FB ≠ w.heap.size := by have := HCF.out.lo; omega
        go_wp2_with fail
        go_region
        go_wp2_with fail
        exact bodyPost_ret (v := .tuple #[.slice (some ⟨FT, 0, none⟩) k k, .agg #[.slice (some ⟨PU, 0, none⟩) k k, .slice (some ⟨PV, 0, none⟩) k k], .bool true]) (by simp [results, Try.results6, go_sem, *]) rfl ⟨FT, PU, PV, rfl, HEND.out 1⟩
end Go.Proofs.Ytkebaklmkidfoaa
namespace Go.Proofs.Ytkebaklmkidfoaa
open Go.RowKit

/-- What CheapestFit leaves: three lists of their own memory, apart from one another. -/
structure CfW (w w' : World) (v p q : Value) (n : Nat) (fs us vs : List Int) : Prop where
  b : Below w.heap.size w w'
  o0 : w'.ownsRow w.heap.size 3 1 v n (ints fs)
  o1 : w'.ownsRow w.heap.size 3 1 p n (ints us)
  o2 : w'.ownsRow w.heap.size 3 1 q n (ints vs)
  d01 : ∀ g, v.ownBlock = some g → p.ownBlock ≠ some g
  d02 : ∀ g, v.ownBlock = some g → q.ownBlock ≠ some g
  d12 : ∀ g, p.ownBlock = some g → q.ownBlock ≠ some g
def cfN (C : List (List Int)) : Nat := if Hu.costB C then C.length else 0
def cfA (C : List (List Int)) : List Int := if Hu.costB C then Hu.fitL C C.length else []
def cfB (C : List (List Int)) : List Int := if Hu.costB C then Hu.loadsL C C.length else []
def cfC (C : List (List Int)) : List Int := if Hu.costB C then Hu.binsL C C.length else []
theorem cfA_len (C : List (List Int)) : (cfA C).length = cfN C := by unfold cfA cfN; split <;> simp [Hu.fitL, Hu.tab]
theorem cfB_len (C : List (List Int)) : (cfB C).length = cfN C := by unfold cfB cfN; split <;> simp [Hu.loadsL, Hu.tab]
theorem cfC_len (C : List (List Int)) : (cfC C).length = cfN C := by unfold cfC cfN; split <;> simp [Hu.binsL, Hu.tab]
theorem CfO.w {w w' : World} {n FT PU PV : Nat} {C : List (List Int)} (h : CfO w w' n FT PU PV C) (hn : C.length = n) (hg : Hu.costB C = true) : CfW w w' (.slice (some ⟨FT, 0, none⟩) n n) (.slice (some ⟨PU, 0, none⟩) n n) (.slice (some ⟨PV, 0, none⟩) n n) (cfN C) (cfA C) (cfB C) (cfC C) := by
  unfold cfN cfA cfB cfC
  rw [hg, hn]
  refine ⟨h.b, h.ft, h.pu, h.pv, fun g hg => ?_, fun g hg => ?_, fun g hg => ?_⟩
  · simp [Value.ownBlock] at hg ⊢; have := h.n1; omega
  · simp [Value.ownBlock] at hg ⊢; have := h.n2; omega
  · simp [Value.ownBlock] at hg ⊢; have := h.n3; omega
theorem cfw_no {w w' : World} {C : List (List Int)} (hg : Hu.costB C = false) (hb : Below w.heap.size w w') : CfW w w' (.slice none 0 0) (.slice none 0 0) (.slice none 0 0) (cfN C) (cfA C) (cfB C) (cfC C) := by
  unfold cfN cfA cfB cfC
  rw [hg]
  exact ⟨hb, World.ownsRow_nil _ _ _ _, World.ownsRow_nil _ _ _ _, World.ownsRow_nil _ _ _ _, fun g hg => by simp [Value.ownBlock] at hg, fun g hg => by simp [Value.ownBlock] at hg, fun g hg => by simp [Value.ownBlock] at hg⟩
set_option maxRecDepth 100000 in
set_option maxHeartbeats 4000000 in
theorem scf_yes {e : Option Addr} {n ce : Nat} {C : List (List Int)} {w : World} (hg : Hu.costB C = true) (hl : C.length = n) (hc : CRow w e C) :
    Calls Try.prog 7 #[.slice e n ce] w fun e w' => ∃ FT PU PV, e = .returned (.tuple #[.slice (some ⟨FT, 0, none⟩) n n, .agg #[.slice (some ⟨PU, 0, none⟩) n n, .slice (some ⟨PV, 0, none⟩) n n], .bool true]) ∧ CfO w w' n FT PU PV C := by
  have gl := Hu.costB_len hg
  rw [hl] at gl
  obtain ⟨n1, n10⟩ := gl
  have HG := hide hg
  have HN := hide hl
  have bn0 := below_new w (.cells #[.slice none 0 0, .slice none 0 0] 27)
  have hc1 := hc.below bn0
  have r0 : (w.alloc (.cells #[.slice none 0 0, .slice none 0 0] 27)).cell? ⟨w.heap.size, 0, none⟩ = some (.slice none 0 0) := by simp
  have r1 : (w.alloc (.cells #[.slice none 0 0, .slice none 0 0] 27)).cell? ⟨w.heap.size, 1, none⟩ = some (.slice none 0 0) := by simp
  have r2 : (w.alloc (.cells #[.slice none 0 0, .slice none 0 0] 27)).frozen? ⟨w.heap.size, 0, none⟩ = false := by simp
  have r3 : (w.alloc (.cells #[.slice none 0 0, .slice none 0 0] 27)).frozen? ⟨w.heap.size, 1, none⟩ = false := by simp
  have hs0 : (w.alloc (.cells #[.slice none 0 0, .slice none 0 0] 27)).heap.size = w.heap.size + 1 := World.size_alloc _ _
  have HGC := hide (sgc_eq (w := w.alloc (.cells #[.slice none 0 0, .slice none 0 0] 27)) (c := ce) HN (by omega) (hide hc1) HG)
  obtain ⟨w0, hw0⟩ : ∃ w0, w0 = w.alloc (.cells #[.slice none 0 0, .slice none 0 0] 27) := ⟨_, rfl⟩
  rw [← hw0] at bn0 hc1 r0 r1 r2 r3 hs0 HGC
  have HW0 := hide hw0.symm
  have HB0 := hide bn0
  have HLF := hide (lfit_any (ce := ce) HG.out HN.out hc1)
  clear bn0 hc hc1 hw0 hg hl
  go_enter Try.func7, Try.ntmps7
  go_upto_region 1 with fail
  rw [HW0.out]
  clear HW0
  go_wp2_with fail
  refine HGC.out.mono ?_
  rintro e1 w1 ⟨rfl, hw1⟩
  obtain rfl : w0 = w1 := hw1.symm
  clear HGC
  go_wp2_with fail
  refine HLF.out.mono ?_
  rintro e2 w2 ⟨FT, PU, PV, rfl, hO⟩
  have hR : w.heap.size < w0.heap.size := by omega
  have bZ := below_new w2 (.cells #[.slice (some ⟨PU, 0, none⟩) n n, .slice (some ⟨PV, 0, none⟩) n n] 27)
  have hb2 := hO.b
  have bw := hb2.trans (bZ.mono hb2.size)
  have q0 := (bw.cell (p := ⟨w.heap.size, 0, none⟩) hR).trans r0
  have q1 := (bw.cell (p := ⟨w.heap.size, 1, none⟩) hR).trans r1
  have q2 := (bw.frozen (p := ⟨w.heap.size, 0, none⟩) hR).trans r2
  have q3 := (bw.frozen (p := ⟨w.heap.size, 1, none⟩) hR).trans r3
  have hne : w2.heap.size ≠ w.heap.size := by have := hb2.size; omega
  have HEND := hide fun d : Nat => CfO.of (d := d) (C := C) HB0.out bw hs0 (g_own hO.ft bZ) (g_own hO.pu bZ) (g_own hO.pv bZ) hO.n1 hO.n2 hO.n3 (.slice (some ⟨PU, 0, none⟩) n n) (.slice (some ⟨PV, 0, none⟩) n n)
  clear hO bZ hb2 bw r0 r1 r2 r3 HLF
  go_wp2_with fail
  go_region
  go_wp2_with fail
  exact bodyPost_ret (v := .tuple #[.slice (some ⟨FT, 0, none⟩) n n, .agg #[.slice (some ⟨PU, 0, none⟩) n n, .slice (some ⟨PV, 0, none⟩) n n], .bool true]) (by simp [results, Try.results7, go_sem, *]) rfl ⟨FT, PU, PV, rfl, HEND.out 1⟩
set_option maxRecDepth 100000 in
set_option maxHeartbeats 2000000 in
theorem scf_w {e : Option Addr} {n ce : Nat} {C : List (List Int)} {w : World} (HN : Hid (C.length = n)) (hl1 : n ≤ 1048576) (HC : Hid (CRow w e C)) :
    Calls Try.prog 7 #[.slice e n ce] w fun e w' => ∃ v p q, e = .returned (.tuple #[v, .agg #[p, q], .bool (Hu.costB C)]) ∧ CfW w w' v p q (cfN C) (cfA C) (cfB C) (cfC C) := by
  cases hg : Hu.costB C
  · have HG := hide hg
    have bn0 := below_new w (.cells #[.slice none 0 0, .slice none 0 0] 27)
    have HC1 := hide (HC.out.below bn0)
    have HEND := hide fun (d : Nat) (a b : Value) => cfw_no (C := C) hg (((below_drewN bn0 d).setCell (p := ⟨w.heap.size, 0, none⟩) (Nat.le_refl _) a).setCell (p := ⟨w.heap.size, 1, none⟩) (Nat.le_refl _) b)
    have HENZ := hide (cfw_no (C := C) hg bn0)
    clear hg bn0
    go_enter Try.func7, Try.ntmps7
    go_wp2_with fail
    refine (sgc_eq HN hl1 HC1 HG).mono ?_
    rintro e w1 ⟨rfl, rfl⟩
    go_wp2_with fail
    exact bodyPost_ret (v := .tuple #[.slice none 0 0, .agg #[.slice none 0 0, .slice none 0 0], .bool false]) (by simp [results, Try.results7, go_sem, *]) rfl ⟨_, _, _, rfl, by first | exact HENZ.out | exact HEND.out 0 _ _ | exact HEND.out 1 _ _⟩
  · refine (scf_yes hg HN.out HC.out).mono ?_
    rintro e w' ⟨FT, PU, PV, rfl, h⟩
    exact ⟨_, _, _, rfl, h.w HN.out hg⟩
set_option maxRecDepth 100000 in
set_option maxHeartbeats 2000000 in
theorem cf_w {e : Option Addr} {n ce : Nat} {C : List (List Int)} {w : World} (HN : Hid (C.length = n)) (HC : Hid (CRow w e C)) :
    Calls Try.prog 6 #[.slice e n ce] w fun e w' => ∃ v p q, e = .returned (.tuple #[v, .agg #[p, q], .bool (Hu.costB C)]) ∧ CfW w w' v p q (cfN C) (cfA C) (cfB C) (cfC C) := by
  cases hg : Hu.costB C
  · have HG := hide hg
    have bn0 := below_new w (.cells #[.slice none 0 0, .slice none 0 0] 27)
    have HC1 := hide (HC.out.below bn0)
    have HEND := hide fun (d : Nat) (a b : Value) => cfw_no (C := C) hg (((below_drewN bn0 d).setCell (p := ⟨w.heap.size, 0, none⟩) (Nat.le_refl _) a).setCell (p := ⟨w.heap.size, 1, none⟩) (Nat.le_refl _) b)
    have HENZ := hide (cfw_no (C := C) hg bn0)
    clear hg bn0
    go_enter Try.func6, Try.ntmps6
    go_wp2_with fail
    refine (gc_eq HN HC1 HG).mono ?_
    rintro e w1 ⟨rfl, rfl⟩
    go_wp2_with fail
    exact bodyPost_ret (v := .tuple #[.slice none 0 0, .agg #[.slice none 0 0, .slice none 0 0], .bool false]) (by simp [results, Try.results6, go_sem, *]) rfl ⟨_, _, _, rfl, by first | exact HENZ.out | exact HEND.out 0 _ _ | exact HEND.out 1 _ _⟩
  · refine (cf_yes hg HN.out HC.out).mono ?_
    rintro e w' ⟨FT, PU, PV, rfl, h⟩
    exact ⟨_, _, _, rfl, h.w HN.out hg⟩
end Go.Proofs.Ytkebaklmkidfoaa
namespace Go.Proofs.Ytkebaklmkidfoaa
open Go.RowKit


theorem has_step {xs : List Int} {k : Nat} {x : Int} (hk : k < xs.length) (h : (xs.take k).contains x = false) (hne : (xs.getD k 0 == x) = false) : (xs.take (k + 1)).contains x = false := by
  rw [List.take_add_one]
  have e : xs[k]? = some (xs.getD k 0) := by simp [hk]
  simp only [e, Option.toList_some, List.contains_eq_mem, List.mem_append, List.mem_singleton, decide_eq_false_iff_not] at h ⊢
  simp only [beq_eq_false_iff_ne] at hne
  exact fun c => c.elim h (fun c => hne c.symm)
theorem has_yes {xs : List Int} {k : Nat} {x : Int} (hk : k < xs.length) (h : (xs.getD k 0 == x) = true) : xs.contains x = true := by
  have : xs.getD k 0 = x := by simpa using h
  rw [← this, Pf.getD_lt xs 0 hk]
  simp
set_option maxRecDepth 100000 in
set_option maxHeartbeats 1000000 in
theorem has7_any {a : Option Addr} {n c : Nat} {xs : List Int} {x : Int} {w : World} (hx : xs.length = n) (hn : n ≤ 1000) (ha : ARow w a xs) :
    Calls Try.prog 62 #[.slice a n c, .int .i64 x] w fun e w' => e = .returned (.bool (xs.contains x)) ∧ w' = w := by
  have HA := hide ha
  have HX := hide hx
  clear ha hx
  go_enter Try.func62, Try.ntmps62
  go_wp2_with fail
  go_loop [4, 6, 9] (fun s4 _ s => ∃ (k : Nat), s4 = .bool false ∧ s = .int .i64 k ∧ k ≤ n ∧ Hid ((xs.take k).contains x = false)) (fun _ _ s => n - (intOf s).toNat)
  case atStart => exact ⟨0, rfl, rfl, Nat.zero_le _, hide (by simp)⟩
  case round =>
    obtain ⟨k, rfl, rfl, hk, HK⟩ := hrel
    by_cases hlt : k < n
    · obtain ⟨b, off, rfl, r1⟩ := HA.out.at (i := k) (by rw [HX.out]; exact hlt)
      have i0 : (0 : Int) ≤ (k : Int) := by omega
      have i1 : (k : Int) < (n : Int) := by omega
      have HS := hide (has_step (x := x) (by rw [HX.out]; exact hlt) HK.out)
      have HY := hide (has_yes (x := x) (k := k) (xs := xs) (by rw [HX.out]; exact hlt))
      generalize xs.getD k 0 = y at *
      cases hb : (y == x)
      · have H1 := hide (HS.out hb)
        go_wp2_with fail
        go_round
        case rel => exact ⟨k + 1, rfl, by go_num, by omega, H1⟩
        case measure => simp only [intOf]; omega
      · have H1 := hide (HY.out hb)
        go_wp2_with fail
        go_ret
        exact ⟨ret_bool (H1.out.symm.trans (List.contains_eq_mem ..)), rfl⟩
    · have hke : k = n := by omega
      subst hke
      have H1 := hide (show xs.contains x = false by have := HK.out; rwa [← HX.out, List.take_length] at this)
      go_wp2_with fail
      go_ret
      exact ⟨ret_bool (H1.out.symm.trans (List.contains_eq_mem ..)), rfl⟩
theorem has7_eq {a : Option Addr} {n c : Nat} {xs : List Int} {x : Int} {w : World} {r : Bool} (hx : Hid (xs.length = n)) (hn : n ≤ 1000) (ha : Hid (ARow w a xs)) (h : Hid (xs.contains x = r)) :
    Calls Try.prog 62 #[.slice a n c, .int .i64 x] w fun e w' => e = .returned (.bool r) ∧ w' = w := h.out ▸ has7_any hx.out hn ha.out
theorem ARow.take {w : World} {a : Option Addr} {xs : List Int} (h : ARow w a xs) (k : Nat) : ARow w a (xs.take k) := by
  rcases h with h | ⟨b, off, ha, hb, hc⟩
  · exact Or.inl (by rw [h]; simp)
  · refine Or.inr ⟨b, off, ha, hb, fun i hi => ?_⟩
    rw [List.length_take] at hi
    rw [hc i (by omega)]
    simp [show i < k by omega]

set_option maxRecDepth 100000 in
set_option maxHeartbeats 1000000 in
theorem seo_ne {a : Option Addr} {n m c : Nat} {w : World} (h : m ≠ n) :
    Calls Try.prog 41 #[.slice a m c, .int .i64 n] w fun e w' => e = .returned (.bool false) ∧ w' = w := by
  have h1 : ((m : Int) != (n : Int)) = true := by simp; omega
  go_enter Try.func41, Try.ntmps41
  go_wp2_with fail
  go_ret
  exact ⟨rfl, rfl⟩
set_option maxRecDepth 100000 in
set_option maxHeartbeats 2000000 in
theorem seo_same {a : Option Addr} {n c : Nat} {xs : List Int} {w : World} (hx : xs.length = n) (hn : n ≤ 10) (hc : n ≤ c) (ha : ARow w a xs) :
    Calls Try.prog 41 #[.slice a n c, .int .i64 n] w fun e w' => e = .returned (.bool (Od.ordB xs n)) ∧ w' = w := by
  have h1 : ((n : Int) != (n : Int)) = false := by simp
  have HA := hide ha
  have HX := hide hx
  clear ha hx
  go_enter Try.func41, Try.ntmps41
  go_wp2_with fail
  go_loop [4, 5, 6, 13] (fun s4 _ _ s => ∃ (k : Nat), s4 = .bool false ∧ s = .int .i64 k ∧ k ≤ n ∧ Hid (∀ i, i < k → Od.okAt xs n i = true)) (fun _ _ _ s => n - (intOf s).toNat)
  case atStart => exact ⟨0, rfl, rfl, Nat.zero_le _, hide fun i hi => absurd hi (Nat.not_lt_zero _)⟩
  case round =>
    obtain ⟨k, rfl, rfl, hk, HK⟩ := hrel
    by_cases hlt : k < n
    · obtain ⟨b, off, rfl, r1⟩ := HA.out.at (i := k) (by rw [HX.out]; exact hlt)
      have i0 : (0 : Int) ≤ (k : Int) := by omega
      have i1 : (k : Int) < (n : Int) := by omega
      have i2 : (k : Int) ≤ (c : Int) := by omega
      have HTL := hide (show (xs.take k).length = k by rw [List.length_take, HX.out]; omega)
      have HTR := hide (HA.out.take k)
      generalize hx : xs.getD k 0 = x at r1
      cases hb : Pf.inB x 0 ((n : Int) - 1)
      · have HN := hide (Od.ordB_not hlt (show Od.okAt xs n k = false by simp only [Od.okAt]; rw [hx, hb]; rfl))
        clear hx
        go_wp2_with fail
        refine (in_eq hb).mono ?_
        rintro e w1 ⟨rfl, rfl⟩
        go_wp2_with fail
        go_ret
        exact ⟨ret_bool HN.out.symm, rfl⟩
      · cases hs : (xs.take k).contains x
        · have H1 := hide hs
          have HT : Hid (Od.okAt xs n k = true) := hide (show Od.okAt xs n k = true by simp only [Od.okAt]; rw [hx, hs, hb]; rfl)
          clear hs hx
          go_wp2_with fail
          refine (in_eq hb).mono ?_
          rintro e w1 ⟨rfl, rfl⟩
          go_wp2_with fail
          refine (has7_eq HTL (by omega) HTR H1).mono ?_
          rintro e w1 ⟨rfl, rfl⟩
          go_wp2_with fail
          go_round
          case rel =>
            refine ⟨k + 1, rfl, by go_num, by omega, hide fun i hi => ?_⟩
            by_cases e : i = k
            · subst e; exact HT.out
            · exact HK.out i (by omega)
          case measure => simp only [intOf]; omega
        · have H1 := hide hs
          have HN := hide (Od.ordB_not hlt (show Od.okAt xs n k = false by simp only [Od.okAt]; rw [hx, hs]; simp))
          clear hs hx
          go_wp2_with fail
          refine (in_eq hb).mono ?_
          rintro e w1 ⟨rfl, rfl⟩
          go_wp2_with fail
          refine (has7_eq HTL (by omega) HTR H1).mono ?_
          rintro e w1 ⟨rfl, rfl⟩
          go_wp2_with fail
          go_ret
          exact ⟨ret_bool HN.out.symm, rfl⟩
    · have hke : k = n := by omega
      subst hke
      have HY := hide (Od.ordB_of HX.out HK.out)
      go_wp2_with fail
      go_ret
      exact ⟨ret_bool HY.out.symm, rfl⟩
theorem seo_any {a : Option Addr} {n m c : Nat} {xs : List Int} {w : World} (hx : xs.length = m) (hn : n ≤ 10) (hc : m ≤ c) (ha : ARow w a xs) :
    Calls Try.prog 41 #[.slice a m c, .int .i64 n] w fun e w' => e = .returned (.bool (Od.ordB xs n)) ∧ w' = w := by
  by_cases h : m = n
  · subst h; exact seo_same hx hn hc ha
  · rw [Od.ordB_ne (by omega)]; exact seo_ne h
theorem seo_eq {a : Option Addr} {n m c : Nat} {xs : List Int} {w : World} {r : Bool} (hx : Hid (xs.length = m)) (hn : n ≤ 10) (hc : m ≤ c) (ha : Hid (ARow w a xs)) (h : Hid (Od.ordB xs n = r)) :
    Calls Try.prog 41 #[.slice a m c, .int .i64 n] w fun e w' => e = .returned (.bool r) ∧ w' = w := h.out ▸ seo_any hx.out hn hc ha.out
end Go.Proofs.Ytkebaklmkidfoaa
namespace Go.Proofs.Ytkebaklmkidfoaa.Ma
/-- The bins that each load is told of. -/
def bins (F : List (List Bool)) : Nat := (F.getD 0 []).length
def goodB (F : List (List Bool)) : Bool := decide (F.length ≤ 8) && F.all fun r => decide (r.length = bins F) && decide (r.length ≤ 8)
theorem goodB_len {F : List (List Bool)} (h : goodB F = true) : F.length ≤ 8 := by simp [goodB] at h; exact h.1
theorem goodB_row {F : List (List Bool)} (h : goodB F = true) {l : Nat} (hl : l < F.length) : (F.getD l []).length = bins F := by
  simp [goodB] at h
  have := h.2 F[l] (List.getElem_mem hl)
  simp [hl, this]
theorem goodB_bins {F : List (List Bool)} (h : goodB F = true) : bins F ≤ 8 := by
  by_cases e : F.length = 0
  · have : F = [] := List.length_eq_zero_iff.1 e
    subst this; simp [bins]
  · simp [goodB] at h
    have h0 : 0 < F.length := by omega
    have := h.2 F[0] (List.getElem_mem h0)
    omega
theorem goodB_many {F : List (List Bool)} (h : 8 < F.length) : goodB F = false := by simp [goodB, show ¬ F.length ≤ 8 by omega]
theorem goodB_wide {F : List (List Bool)} (h : 8 < bins F) : goodB F = false := by
  cases e : goodB F
  · rfl
  · have := goodB_bins e; omega
theorem goodB_not {F : List (List Bool)} {l : Nat} (hl : l < F.length) (h : (F.getD l []).length ≠ bins F ∨ 8 < (F.getD l []).length) : goodB F = false := by
  cases e : goodB F
  · rfl
  · have h1 := goodB_row e hl; have h2 := goodB_bins e; omega
theorem goodB_of {F : List (List Bool)} (h : F.length ≤ 8) (h2 : ∀ l, l < F.length → (F.getD l []).length = bins F ∧ (F.getD l []).length ≤ 8) : goodB F = true := by
  simp only [goodB, Bool.and_eq_true, decide_eq_true_eq, List.all_eq_true]
  refine ⟨h, fun r hr => ?_⟩
  obtain ⟨i, hi, rfl⟩ := List.getElem_of_mem hr
  have := h2 i hi
  simpa [hi] using this
/-- Whether load l fits bin b. -/
def fit (F : List (List Bool)) (l b : Nat) : Bool := (F.getD l []).getD b false

/-- A search through the bins from b on, k of them, for load l; rc: the search for the load that has a bin. -/
def scan (F : List (List Bool)) (own : List Int) (rc : Nat → List Bool → Option (List (Nat × Nat)) × List Bool) (l : Nat) : Nat → Nat → List Bool → Option (List (Nat × Nat)) × List Bool
  | _, 0, t => (none, t)
  | b, k + 1, t =>
    if fit F l b && !t.getD b false then
      if own.getD b (-1) < 0 then (some [(l, b)], t.set b true)
      else match rc (own.getD b (-1)).toNat (t.set b true) with
        | (some w, t') => (some ((l, b) :: w), t')
        | (none, t') => scan F own rc l (b + 1) k t'
    else scan F own rc l (b + 1) k t
def srch (F : List (List Bool)) (own : List Int) : Nat → Nat → List Bool → Option (List (Nat × Nat)) × List Bool
  | 0, _, t => (none, t)
  | f + 1, l, t => scan F own (srch F own f) l 0 (bins F) t

/-- How many bins are not tried yet. -/
def left (t : List Bool) : Nat := t.count false
theorem left_set {t : List Bool} {b : Nat} (hb : b < t.length) (h : t.getD b false = false) : left (t.set b true) + 1 = left t := by
  have e : t[b] = false := by simpa [hb] using h
  have hp : 0 < List.count false t := List.count_pos_iff.2 (e ▸ List.getElem_mem hb)
  unfold left
  rw [List.count_set hb]
  simp [e]; omega
theorem left_mono : ∀ {t t' : List Bool}, t'.length = t.length → (∀ b, t.getD b false = true → t'.getD b false = true) → left t' ≤ left t
  | [], t', h, _ => by
    have : t' = [] := List.length_eq_zero_iff.1 h
    subst this; exact Nat.le_refl _
  | x :: t, [], h, _ => by simp at h
  | x :: t, y :: t', h, hm => by
    have ih := left_mono (t := t) (t' := t') (by simpa using h) (fun b hb => by have := hm (b + 1); simp at this; simpa using this (by simpa using hb))
    have h0 := hm 0
    simp at h0
    unfold left at *
    cases x <;> cases y <;> simp_all <;> omega
theorem get_set (t : List Bool) (b c : Nat) (hb : b < t.length) : (t.set b true).getD c false = if c = b then true else t.getD c false := by
  by_cases e : c = b
  · subst e; simp [hb]
  · simp [e, Ne.symm e]

/-- A way: each load takes a bin that it fits, which the next one leaves; the last one is free; no bin twice. -/
inductive Chain (F : List (List Bool)) (own : List Int) : Nat → List (Nat × Nat) → Prop
  | last {l b : Nat} : b < bins F → fit F l b = true → own.getD b (-1) < 0 → Chain F own l [(l, b)]
  | step {l b l' : Nat} {w : List (Nat × Nat)} : b < bins F → fit F l b = true → own.getD b (-1) = (l' : Int) → (∀ q ∈ w, q.2 ≠ b) → Chain F own l' w → Chain F own l ((l, b) :: w)

structure Res (F : List (List Bool)) (own : List Int) (l : Nat) (f : Nat) (b0 : Nat) (t : List Bool) (r : Option (List (Nat × Nat)) × List Bool) : Prop where
  len : r.2.length = t.length
  mono : ∀ b, t.getD b false = true → r.2.getD b false = true
  way : ∀ w, r.1 = some w → Chain F own l w ∧ ∀ p ∈ w, t.getD p.2 false = false
  fail : r.1 = none → left t < f → (∀ b, b0 ≤ b → b < bins F → fit F l b = true → r.2.getD b false = true) ∧ ∀ b, b < bins F → r.2.getD b false = true → t.getD b false = false → 0 ≤ own.getD b (-1) ∧ ∀ b', b' < bins F → fit F (own.getD b (-1)).toNat b' = true → r.2.getD b' false = true

theorem scan_res {F : List (List Bool)} {own : List Int} {f : Nat} {rc : Nat → List Bool → Option (List (Nat × Nat)) × List Bool} (hrc : ∀ l t, t.length = bins F → Res F own l f 0 t (rc l t)) (l : Nat) :
    ∀ (k b : Nat) (t : List Bool), b + k = bins F → t.length = bins F → Res F own l (f + 1) b t (scan F own rc l b k t)
  | 0, b, t, hk, ht => ⟨rfl, fun _ h => h, fun w hw => by simp [scan] at hw, fun _ _ => ⟨fun b' h1 h2 => by omega, fun b' _ h1 h2 => by simp [scan] at h1; simp [h1] at h2⟩⟩
  | k + 1, b, t, hk, ht => by
    unfold scan
    by_cases hc : (fit F l b && !t.getD b false) = true
    · rw [if_pos hc]
      simp only [Bool.and_eq_true, Bool.not_eq_true'] at hc
      obtain ⟨hf, hn⟩ := hc
      have hb : b < t.length := by omega
      have hset : ∀ c, (t.set b true).getD c false = if c = b then true else t.getD c false := fun c => get_set t b c hb
      by_cases ho : own.getD b (-1) < 0
      · rw [if_pos ho]
        refine ⟨by simp, fun c hc => ?_, fun w hw => ?_, fun h => by simp at h⟩
        · simp only [hset]; split <;> simp_all
        · simp at hw; subst hw
          exact ⟨.last (by omega) hf ho, fun p hp => by simp at hp; subst hp; exact hn⟩
      · rw [if_neg ho]
        have R := hrc (own.getD b (-1)).toNat (t.set b true) (by simpa using ht)
        generalize rc (own.getD b (-1)).toNat (t.set b true) = r at R
        obtain ⟨o, t'⟩ := r
        have hm : ∀ c, t.getD c false = true → t'.getD c false = true := fun c h => R.mono c (by rw [hset]; split <;> simp_all)
        have hb' : t'.getD b false = true := R.mono b (by rw [hset]; simp)
        cases o with
        | some w =>
          refine ⟨by have := R.len; simpa using this, hm, fun w' hw' => ?_, fun h => by simp at h⟩
          simp at hw'; subst hw'
          obtain ⟨hc1, hc2⟩ := R.way w rfl
          have hne : ∀ q ∈ w, q.2 ≠ b := fun q hq e => by have := hc2 q hq; rw [e, hset] at this; simp at this
          refine ⟨.step (by omega) hf (by omega) hne hc1, fun p hp => ?_⟩
          rcases List.mem_cons.1 hp with rfl | hp
          · exact hn
          · have := hc2 p hp; rw [hset] at this; simpa [hne p hp] using this
        | none =>
          have hlen : t'.length = bins F := by have := R.len; simp at this; omega
          have S := scan_res hrc l k (b + 1) t' (by omega) hlen
          refine ⟨by rw [S.len]; omega, fun c hc => S.mono c (hm c hc), fun w hw => ?_, fun hN hL => ?_⟩
          · obtain ⟨h1, h2⟩ := S.way w hw
            refine ⟨h1, fun p hp => ?_⟩
            cases hv : t.getD p.2 false
            · rfl
            · have := hm _ hv; rw [h2 p hp] at this; cases this
          · have hl1 := left_set hb hn
            obtain ⟨f1, f2⟩ := R.fail rfl (by omega)
            have hl2 : left t' ≤ left t := left_mono (by omega) hm
            obtain ⟨s1, s2⟩ := S.fail hN (by omega)
            refine ⟨fun c h1 h2 h3 => ?_, fun c hc h1 h2 => ?_⟩
            · by_cases e : c = b
              · subst e; exact S.mono _ hb'
              · exact s1 c (by omega) h2 h3
            · cases hv : t'.getD c false
              · exact s2 c hc h1 hv
              · by_cases e : c = b
                · subst e
                  exact ⟨by omega, fun b' hb2 h4 => S.mono _ (f1 b' (Nat.zero_le _) hb2 h4)⟩
                · obtain ⟨g1, g2⟩ := f2 c hc hv (by rw [hset, if_neg e]; exact h2)
                  exact ⟨g1, fun b' hb2 h4 => S.mono _ (g2 b' hb2 h4)⟩
    · rw [if_neg hc]
      have S := scan_res hrc l k (b + 1) t (by omega) ht
      refine ⟨S.len, S.mono, S.way, fun hN hL => ?_⟩
      obtain ⟨s1, s2⟩ := S.fail hN hL
      refine ⟨fun c h1 h2 h3 => ?_, s2⟩
      by_cases e : c = b
      · subst e
        simp only [Bool.and_eq_true, Bool.not_eq_true', not_and, Bool.not_eq_false] at hc
        exact S.mono _ (hc h3)
      · exact s1 c (by omega) h2 h3
theorem srch_res (F : List (List Bool)) (own : List Int) : ∀ (f l : Nat) (t : List Bool), t.length = bins F → Res F own l f 0 t (srch F own f l t)
  | 0, l, t, _ => ⟨rfl, fun _ h => h, fun w hw => by simp [srch] at hw, fun _ h => by omega⟩
  | f + 1, l, t, ht => scan_res (srch_res F own f) l (bins F) 0 t (by omega) ht
/-- Bins that don't fit, or are tried, are passed over. -/
theorem scan_skip {F : List (List Bool)} {own : List Int} {rc : Nat → List Bool → Option (List (Nat × Nat)) × List Bool} {l : Nat} : ∀ (j k b : Nat) (t : List Bool), (∀ c, b ≤ c → c < b + j → (fit F l c && !t.getD c false) = false) → scan F own rc l b (j + k) t = scan F own rc l (b + j) k t
  | 0, k, b, t, _ => by simp
  | j + 1, k, b, t, h => by
    rw [show j + 1 + k = (j + k) + 1 by omega, scan, if_neg (by rw [h b (by omega) (by omega)]; simp), scan_skip j k (b + 1) t (fun c h1 h2 => h c (by omega) (by omega)), show b + 1 + j = b + (j + 1) by omega]
/-- m tells for each load its bin, own for each bin its load, alike; -1: none. -/
structure MO (F : List (List Bool)) (m own : List Int) : Prop where
  lm : m.length = F.length
  lo : own.length = bins F
  mo : ∀ l b : Nat, l < F.length → b < bins F → m.getD l (-1) = (b : Int) → own.getD b (-1) = (l : Int)
  om : ∀ b : Nat, b < bins F → own.getD b (-1) = -1 ∨ ∃ l : Nat, l < F.length ∧ own.getD b (-1) = (l : Int) ∧ m.getD l (-1) = (b : Int) ∧ fit F l b = true
  mm : ∀ l : Nat, l < F.length → m.getD l (-1) = -1 ∨ ∃ b : Nat, b < bins F ∧ m.getD l (-1) = (b : Int)
/-- Each load of the way takes its bin. -/
def upd (m : List Int) (w : List (Nat × Nat)) : List Int := w.foldl (fun m p => m.set p.1 (p.2 : Int)) m
def oset (own : List Int) : List (Nat × Nat) → List Int
  | [] => own
  | p :: w => (oset own w).set p.2 (p.1 : Int)
theorem upd_len : ∀ (w : List (Nat × Nat)) (m : List Int), (upd m w).length = m.length
  | [], _ => rfl
  | p :: w, m => by show (upd (m.set p.1 _) w).length = _; rw [upd_len w]; simp
theorem oset_len (own : List Int) : ∀ (w : List (Nat × Nat)), (oset own w).length = own.length
  | [] => rfl
  | p :: w => by simp [oset, oset_len own w]
theorem iget_set (m : List Int) (l c : Nat) (x : Int) (hl : l < m.length) : (m.set l x).getD c (-1) = if c = l then x else m.getD c (-1) := by
  by_cases e : c = l
  · subst e; simp [hl]
  · simp [e, Ne.symm e]
theorem upd_other : ∀ (w : List (Nat × Nat)) (m : List Int) (l : Nat), (∀ p ∈ w, p.1 < m.length) → (∀ p ∈ w, p.1 ≠ l) → (upd m w).getD l (-1) = m.getD l (-1)
  | [], _, _, _, _ => rfl
  | p :: w, m, l, hb, h => by
    show (upd (m.set p.1 _) w).getD l _ = _
    rw [upd_other w _ l (fun q hq => by simpa using hb q (List.mem_cons_of_mem _ hq)) (fun q hq => h q (List.mem_cons_of_mem _ hq)), iget_set _ _ _ _ (hb p List.mem_cons_self), if_neg (Ne.symm (h p List.mem_cons_self))]
theorem upd_at : ∀ (w : List (Nat × Nat)) (m : List Int), (∀ p ∈ w, p.1 < m.length) → (w.map Prod.fst).Nodup → ∀ p ∈ w, (upd m w).getD p.1 (-1) = (p.2 : Int)
  | [], _, _, _, p, hp => by simp at hp
  | q :: w, m, hb, hn, p, hp => by
    show (upd (m.set q.1 _) w).getD p.1 _ = _
    have hb' : ∀ r ∈ w, r.1 < (m.set q.1 (q.2 : Int)).length := fun r hr => by simpa using hb r (List.mem_cons_of_mem _ hr)
    simp only [List.map_cons, List.nodup_cons] at hn
    rcases List.mem_cons.1 hp with rfl | hp
    · rw [upd_other w _ p.1 hb' (fun r hr e => hn.1 (List.mem_map.2 ⟨r, hr, e⟩)), iget_set _ _ _ _ (hb p List.mem_cons_self), if_pos rfl]
    · exact upd_at w _ hb' hn.2 p hp
theorem oset_other (own : List Int) : ∀ (w : List (Nat × Nat)) (b : Nat), (∀ p ∈ w, p.2 < own.length) → (∀ p ∈ w, p.2 ≠ b) → (oset own w).getD b (-1) = own.getD b (-1)
  | [], _, _, _ => rfl
  | p :: w, b, hb, h => by
    show ((oset own w).set p.2 _).getD b _ = _
    rw [iget_set _ _ _ _ (by rw [oset_len]; exact hb p List.mem_cons_self), if_neg (Ne.symm (h p List.mem_cons_self)), oset_other own w b (fun q hq => hb q (List.mem_cons_of_mem _ hq)) (fun q hq => h q (List.mem_cons_of_mem _ hq))]
theorem oset_at (own : List Int) : ∀ (w : List (Nat × Nat)), (∀ p ∈ w, p.2 < own.length) → (w.map Prod.snd).Nodup → ∀ p ∈ w, (oset own w).getD p.2 (-1) = (p.1 : Int)
  | [], _, _, p, hp => by simp at hp
  | q :: w, hb, hn, p, hp => by
    show ((oset own w).set q.2 _).getD p.2 _ = _
    simp only [List.map_cons, List.nodup_cons] at hn
    rw [iget_set _ _ _ _ (by rw [oset_len]; exact hb q List.mem_cons_self)]
    rcases List.mem_cons.1 hp with rfl | hp
    · rw [if_pos rfl]
    · rw [if_neg (fun e => hn.1 (List.mem_map.2 ⟨p, hp, e⟩))]
      exact oset_at own w (fun r hr => hb r (List.mem_cons_of_mem _ hr)) hn.2 p hp
theorem Chain.bin {F : List (List Bool)} {own : List Int} {l : Nat} {w : List (Nat × Nat)} (h : Chain F own l w) : ∀ p ∈ w, p.2 < bins F ∧ fit F p.1 p.2 = true := by
  induction h with
  | last h1 h2 h3 => intro p hp; simp at hp; subst hp; exact ⟨h1, h2⟩
  | step h1 h2 h3 h4 h5 ih =>
    intro p hp
    rcases List.mem_cons.1 hp with rfl | hp
    · exact ⟨h1, h2⟩
    · exact ih p hp
theorem Chain.nodup {F : List (List Bool)} {own : List Int} {l : Nat} {w : List (Nat × Nat)} (h : Chain F own l w) : (w.map Prod.snd).Nodup := by
  induction h with
  | last h1 h2 h3 => simp
  | step h1 h2 h3 h4 h5 ih =>
    simp only [List.map_cons, List.nodup_cons]
    refine ⟨fun hm => ?_, ih⟩
    obtain ⟨q, hq, e⟩ := List.mem_map.1 hm
    exact h4 q hq e
theorem Chain.head {F : List (List Bool)} {own : List Int} {l : Nat} {w : List (Nat × Nat)} (h : Chain F own l w) : ∃ b w', w = (l, b) :: w' := by
  cases h with
  | last => exact ⟨_, _, rfl⟩
  | step => exact ⟨_, _, rfl⟩
/-- The bin of each is free or the next one's, and each but the first has a bin of the way. -/
theorem Chain.link {F : List (List Bool)} {own : List Int} {l : Nat} {w : List (Nat × Nat)} (h : Chain F own l w) :
    (∀ p ∈ w, own.getD p.2 (-1) < 0 ∨ ∃ q ∈ w, own.getD p.2 (-1) = (q.1 : Int)) ∧ ∀ q ∈ w, q.1 = l ∨ ∃ p ∈ w, own.getD p.2 (-1) = (q.1 : Int) := by
  induction h with
  | last h1 h2 h3 =>
    refine ⟨fun p hp => ?_, fun q hq => ?_⟩
    · simp at hp; subst hp; exact Or.inl h3
    · simp at hq; subst hq; exact Or.inl rfl
  | @step l b l' w h1 h2 h3 h4 h5 ih =>
    obtain ⟨b', w', rfl⟩ := h5.head
    refine ⟨fun p hp => ?_, fun q hq => ?_⟩
    · rcases List.mem_cons.1 hp with rfl | hp
      · exact Or.inr ⟨(l', b'), List.mem_cons_of_mem _ List.mem_cons_self, h3⟩
      · rcases ih.1 p hp with h | ⟨q, hq, e⟩
        · exact Or.inl h
        · exact Or.inr ⟨q, List.mem_cons_of_mem _ hq, e⟩
    · rcases List.mem_cons.1 hq with rfl | hq
      · exact Or.inl rfl
      · rcases ih.2 q hq with e | ⟨p, hp, e⟩
        · exact Or.inr ⟨(l, b), List.mem_cons_self, by rw [e]; exact h3⟩
        · exact Or.inr ⟨p, List.mem_cons_of_mem _ hp, e⟩
theorem MO.own_bin {F : List (List Bool)} {m own : List Int} (h : MO F m own) {b l : Nat} (hb : b < bins F) (e : own.getD b (-1) = (l : Int)) : l < F.length ∧ m.getD l (-1) = (b : Int) ∧ fit F l b = true := by
  rcases h.om b hb with h1 | ⟨l', hl, e', hm, hf⟩
  · omega
  · have : l = l' := by omega
    subst this; exact ⟨hl, hm, hf⟩
theorem Chain.loads {F : List (List Bool)} {m own : List Int} (hM : MO F m own) {l : Nat} {w : List (Nat × Nat)} (h : Chain F own l w) : (∀ p ∈ w, own.getD p.2 (-1) ≠ (l : Int)) → (w.map Prod.fst).Nodup := by
  induction h with
  | last h1 h2 h3 => intro _; simp
  | @step l b l' w h1 h2 h3 h4 h5 ih =>
    intro hn
    simp only [List.map_cons, List.nodup_cons]
    refine ⟨fun hm => ?_, ih fun p hp e => ?_⟩
    · obtain ⟨q, hq, e⟩ := List.mem_map.1 hm
      rcases h5.link.2 q hq with e2 | ⟨p, hp, e2⟩
      · exact hn (l, b) List.mem_cons_self (by rw [h3, ← e2, e])
      · exact hn p (List.mem_cons_of_mem _ hp) (by rw [e2, e])
    · have a := (hM.own_bin h1 h3).2.1
      have c := (hM.own_bin (h5.bin p hp).1 e).2.1
      exact h4 p hp (by omega)
theorem Chain.lt {F : List (List Bool)} {m own : List Int} (hM : MO F m own) {l : Nat} {w : List (Nat × Nat)} (hl : l < F.length) (h : Chain F own l w) : ∀ p ∈ w, p.1 < F.length := fun p hp => by
  rcases h.link.2 p hp with e | ⟨q, hq, e⟩
  · omega
  · exact (hM.own_bin (h.bin q hq).1 e).1
/-- Behind a way that is taken m and own tell alike again. -/
theorem MO.took {F : List (List Bool)} {m own : List Int} (hM : MO F m own) {l : Nat} {w : List (Nat × Nat)} (hl : l < F.length) (hml : m.getD l (-1) = -1) (h : Chain F own l w) :
    MO F (upd m w) (oset own w) ∧ (upd m w).getD l (-1) ≠ -1 ∧ (∀ l', (upd m w).getD l' (-1) = -1 → m.getD l' (-1) = -1) ∧ (∀ l', l' < F.length → m.getD l' (-1) = -1 → l' ≠ l → (upd m w).getD l' (-1) = -1) ∧ (w.map Prod.fst).Nodup := by
  have hno : ∀ b, b < bins F → own.getD b (-1) ≠ (l : Int) := fun b hb e => by have := (hM.own_bin hb e).2.1; omega
  have hnd := h.loads hM (fun p hp => hno p.2 (h.bin p hp).1)
  have hlt : ∀ p ∈ w, p.1 < m.length := fun p hp => by rw [hM.lm]; exact h.lt hM hl p hp
  have hbt : ∀ p ∈ w, p.2 < own.length := fun p hp => by rw [hM.lo]; exact (h.bin p hp).1
  have ua := upd_at w m hlt hnd
  have uo := fun l' => upd_other w m l' hlt
  have oa := oset_at own w hbt h.nodup
  have oo := fun b => oset_other own w b hbt
  have memL : ∀ l', (∃ p ∈ w, p.1 = l') ∨ ∀ p ∈ w, p.1 ≠ l' := fun l' => by
    by_cases e : ∃ p ∈ w, p.1 = l'
    · exact Or.inl e
    · exact Or.inr fun p hp e' => e ⟨p, hp, e'⟩
  have memB : ∀ b, (∃ p ∈ w, p.2 = b) ∨ ∀ p ∈ w, p.2 ≠ b := fun b => by
    by_cases e : ∃ p ∈ w, p.2 = b
    · exact Or.inl e
    · exact Or.inr fun p hp e' => e ⟨p, hp, e'⟩
  refine ⟨⟨by rw [upd_len, hM.lm], by rw [oset_len, hM.lo], fun l' b hl' hb e => ?_, fun b hb => ?_, fun l' hl' => ?_⟩, ?_, fun l' e => ?_, fun l' hl' e hne => ?_, hnd⟩
  · rcases memL l' with ⟨p, hp, rfl⟩ | hn
    · rw [ua p hp] at e
      have : p.2 = b := by omega
      subst this; exact oa p hp
    · rw [uo l' hn] at e
      have ho := hM.mo l' b hl' hb e
      rw [oo b fun p hp e2 => ?_]
      · exact ho
      · subst e2
        rcases h.link.1 p hp with h1 | ⟨q, hq, h1⟩
        · omega
        · exact hn q hq (by omega)
  · rcases memB b with ⟨p, hp, rfl⟩ | hn
    · exact Or.inr ⟨p.1, h.lt hM hl p hp, oa p hp, ua p hp, (h.bin p hp).2⟩
    · rw [oo b hn]
      rcases hM.om b hb with h1 | ⟨l', hl', e1, e2, e3⟩
      · exact Or.inl h1
      · refine Or.inr ⟨l', hl', e1, ?_, e3⟩
        rw [uo l' fun q hq e => ?_]
        · exact e2
        · subst e
          rcases h.link.2 q hq with e4 | ⟨p, hp, e4⟩
          · rw [e4, hml] at e2; omega
          · have := (hM.own_bin (h.bin p hp).1 e4).2.1
            exact hn p hp (by omega)
  · rcases memL l' with ⟨p, hp, rfl⟩ | hn
    · exact Or.inr ⟨p.2, (h.bin p hp).1, ua p hp⟩
    · rw [uo l' hn]; exact hM.mm l' hl'
  · obtain ⟨b, w', rfl⟩ := h.head
    have := ua (l, b) List.mem_cons_self
    simp only at this
    rw [this]; omega
  · rcases memL l' with ⟨p, hp, rfl⟩ | hn
    · rw [ua p hp] at e; omega
    · rw [uo l' hn] at e; exact e
  · rw [uo l' fun q hq e2 => ?_]
    · exact e
    · subst e2
      rcases h.link.2 q hq with e4 | ⟨p, hp, e4⟩
      · exact hne e4
      · have := (hM.own_bin (h.bin p hp).1 e4).2.1
        omega

/-- What is closed: all of it is owned, and owners fit nothing outside. -/
def Clo (F : List (List Bool)) (own : List Int) (R : Nat → Prop) : Prop := ∀ b, b < bins F → R b → 0 ≤ own.getD b (-1) ∧ ∀ b', b' < bins F → fit F (own.getD b (-1)).toNat b' = true → R b'
theorem Chain.out {F : List (List Bool)} {own : List Int} {R : Nat → Prop} (hR : Clo F own R) {l : Nat} {w : List (Nat × Nat)} (h : Chain F own l w) : ∀ p ∈ w, ¬ R p.2 := by
  induction h with
  | last h1 h2 h3 =>
    intro p hp hr
    simp at hp; subst hp
    have := (hR _ h1 hr).1
    omega
  | @step l b l' w h1 h2 h3 h4 h5 ih =>
    intro p hp hr
    rcases List.mem_cons.1 hp with rfl | hp
    · obtain ⟨b', w', rfl⟩ := h5.head
      have q := h5.bin (l', b') List.mem_cons_self
      have := (hR _ h1 hr).2 b' q.1 (by rw [h3]; exact q.2)
      exact ih (l', b') List.mem_cons_self this
    · exact ih p hp hr
structure Inv (F : List (List Bool)) (k : Nat) (m own : List Int) : Prop where
  mo : MO F m own
  later : ∀ l, k ≤ l → l < F.length → m.getD l (-1) = -1
  clo : ∃ R : Nat → Prop, Clo F own R ∧ ∀ l, l < k → l < F.length → m.getD l (-1) = -1 → ∀ b, b < bins F → fit F l b = true → R b
def none8 (n : Nat) : List Int := List.replicate n (-1)
theorem none8_get (n i : Nat) : (none8 n).getD i (-1) = -1 := by
  unfold none8
  rw [List.getD_eq_getElem?_getD, List.getElem?_replicate]
  split <;> rfl
theorem inv_zero (F : List (List Bool)) : Inv F 0 (none8 F.length) (none8 (bins F)) :=
  ⟨⟨by simp [none8], by simp [none8], fun l b _ _ e => by rw [none8_get] at e; omega, fun b _ => Or.inl (none8_get _ _), fun l _ => Or.inl (none8_get _ _)⟩, fun l _ _ => none8_get _ _, fun _ => False, fun _ _ h => h.elim, fun l hl => by omega⟩
/-- The search for a load, from no bin tried. -/
def look (F : List (List Bool)) (own : List Int) (l : Nat) : Option (List (Nat × Nat)) := (srch F own 9 l (List.replicate (bins F) false)).1
def next (F : List (List Bool)) (s : List Int × List Int) (l : Nat) : List Int × List Int :=
  match look F s.2 l with
  | some w => (upd s.1 w, oset s.2 w)
  | none => s
def upto (F : List (List Bool)) : Nat → List Int × List Int
  | 0 => (none8 F.length, none8 (bins F))
  | k + 1 => next F (upto F k) k
theorem left_new (n : Nat) : left (List.replicate n false) = n := by simp [left]
theorem inv_next {F : List (List Bool)} (hG : bins F ≤ 8) {k : Nat} {s : List Int × List Int} (hk : k < F.length) (h : Inv F k s.1 s.2) : Inv F (k + 1) (next F s k).1 (next F s k).2 := by
  have R := srch_res F s.2 9 k (List.replicate (bins F) false) (by simp)
  unfold next look
  generalize srch F s.2 9 k (List.replicate (bins F) false) = r at R
  obtain ⟨o, t'⟩ := r
  cases o with
  | some w =>
    obtain ⟨hc, _⟩ := R.way w rfl
    obtain ⟨t1, t2, t3, t4, t5⟩ := h.mo.took hk (h.later k (Nat.le_refl _) hk) hc
    refine ⟨t1, fun l h1 h2 => t4 l h2 (h.later l (by omega) h2) (by omega), ?_⟩
    obtain ⟨Q, hQ, hU⟩ := h.clo
    refine ⟨Q, fun b hb hr => ?_, fun l h1 h2 h3 => ?_⟩
    · have e : (oset s.2 w).getD b (-1) = s.2.getD b (-1) := oset_other s.2 w b (fun p hp => by rw [h.mo.lo]; exact (hc.bin p hp).1) fun p hp e => hc.out hQ p hp (e ▸ hr)
      show 0 ≤ (oset s.2 w).getD b (-1) ∧ ∀ b', b' < bins F → fit F ((oset s.2 w).getD b (-1)).toNat b' = true → Q b'
      rw [e]
      exact hQ b hb hr
    · have h3' : (upd s.1 w).getD l (-1) = -1 := h3
      by_cases e : l = k
      · subst e; exact absurd h3' t2
      · exact hU l (by omega) h2 (t3 l h3')
  | none =>
    obtain ⟨f1, f2⟩ := R.fail rfl (by rw [left_new]; omega)
    refine ⟨h.mo, fun l h1 h2 => h.later l (by omega) h2, ?_⟩
    obtain ⟨Q, hQ, hU⟩ := h.clo
    refine ⟨fun b => Q b ∨ t'.getD b false = true, fun b hb hr => ?_, fun l h1 h2 h3 b hb hf => ?_⟩
    · rcases hr with hr | hr
      · exact ⟨(hQ b hb hr).1, fun b' h1 h2 => Or.inl ((hQ b hb hr).2 b' h1 h2)⟩
      · have := f2 b hb hr (by rw [List.getD_eq_getElem?_getD, List.getElem?_replicate]; split <;> rfl)
        exact ⟨this.1, fun b' h1 h2 => Or.inr (this.2 b' h1 h2)⟩
    · by_cases e : l = k
      · subst e; exact Or.inr (f1 b (Nat.zero_le _) hb hf)
      · exact Or.inl (hU l (by omega) h2 h3 b hb hf)
theorem inv_upto {F : List (List Bool)} (hG : bins F ≤ 8) : ∀ k, k ≤ F.length → Inv F k (upto F k).1 (upto F k).2
  | 0, _ => inv_zero F
  | k + 1, h => inv_next hG (by omega) (inv_upto hG k (by omega))
/-- The matching, and each bin's load. -/
def mat (F : List (List Bool)) : List Int := (upto F F.length).1
def own (F : List (List Bool)) : List Int := (upto F F.length).2
theorem inv_mat {F : List (List Bool)} (h : goodB F = true) : Inv F F.length (mat F) (own F) := inv_upto (goodB_bins h) _ (Nat.le_refl _)
/-- What the bins below k tell of m. -/
def part (m : List Int) (k : Nat) : List Int := m.map fun x => if x < (k : Int) then x else -1
theorem part_len (m : List Int) (k : Nat) : (part m k).length = m.length := by simp [part]
theorem part_get (m : List Int) (k l : Nat) : (part m k).getD l (-1) = if m.getD l (-1) < (k : Int) then m.getD l (-1) else -1 := by
  unfold part
  by_cases h : l < m.length
  · simp [h]
  · simp [show m.length ≤ l by omega]
theorem ext_get {a b : List Int} (hl : a.length = b.length) (h : ∀ i, i < a.length → a.getD i (-1) = b.getD i (-1)) : a = b := by
  apply List.ext_getElem hl
  intro i h1 h2
  have := h i h1
  simpa [h1, h2] using this
theorem part_zero {F : List (List Bool)} {m own : List Int} (h : MO F m own) : part m 0 = none8 F.length := by
  apply ext_get
  · rw [part_len, h.lm]; simp [none8]
  · intro i hi
    rw [part_len, h.lm] at hi
    rw [part_get, none8_get]
    rcases h.mm i hi with e | ⟨b, hb, e⟩
    · rw [e]; simp
    · rw [e]; simp
theorem part_all {F : List (List Bool)} {m own : List Int} (h : MO F m own) : part m (bins F) = m := by
  apply ext_get
  · rw [part_len]
  · intro i hi
    rw [part_len, h.lm] at hi
    rw [part_get]
    rcases h.mm i hi with e | ⟨b, hb, e⟩
    · rw [e]; simp
    · rw [e, if_pos (by omega)]
theorem part_none {F : List (List Bool)} {m own : List Int} (h : MO F m own) {k : Nat} (hk : k < bins F) (e : own.getD k (-1) = -1) : part m (k + 1) = part m k := by
  apply ext_get
  · rw [part_len, part_len]
  · intro i hi
    rw [part_len, h.lm] at hi
    rw [part_get, part_get]
    have : m.getD i (-1) ≠ (k : Int) := fun e' => by have := h.mo i k hi hk e'; omega
    split <;> split <;> omega
theorem part_some {F : List (List Bool)} {m own : List Int} (h : MO F m own) {k l : Nat} (hk : k < bins F) (e : own.getD k (-1) = (l : Int)) : (part m k).set l (k : Int) = part m (k + 1) := by
  obtain ⟨h1, h2, _⟩ := h.own_bin hk e
  apply ext_get
  · simp [part_len]
  · intro i hi
    simp only [List.length_set, part_len, h.lm] at hi
    rw [iget_set _ _ _ _ (by rw [part_len, h.lm]; exact h1), part_get, part_get]
    by_cases c : i = l
    · subst c; rw [if_pos rfl, h2, if_pos (by omega)]
    · rw [if_neg c]
      have : m.getD i (-1) ≠ (k : Int) := fun e' => by have := h.mo i k hi hk e'; omega
      split <;> split <;> omega
/-- The first place of a bin in m is its owner. -/
theorem MO.first {F : List (List Bool)} {m own : List Int} (h : MO F m own) {b : Nat} (hb : b < bins F) :
    (own.getD b (-1) = -1 ∧ ∀ l, l < m.length → m.getD l (-1) ≠ (b : Int)) ∨ ∃ l, l < m.length ∧ own.getD b (-1) = (l : Int) ∧ m.getD l (-1) = (b : Int) ∧ ∀ l', l' < m.length → m.getD l' (-1) = (b : Int) → l' = l := by
  rcases h.om b hb with e | ⟨l, hl, e1, e2, _⟩
  · exact Or.inl ⟨e, fun l hl e2 => by have := h.mo l b (by rw [← h.lm]; exact hl) hb e2; omega⟩
  · exact Or.inr ⟨l, by rw [h.lm]; exact hl, e1, e2, fun l' hl' e3 => by have := h.mo l' b (by rw [← h.lm]; exact hl') hb e3; omega⟩
end Go.Proofs.Ytkebaklmkidfoaa.Ma
namespace Go.Proofs.Ytkebaklmkidfoaa.Ma

/-- All lists of n yes or no. -/
def alls : Nat → List (List Bool)
  | 0 => [[]]
  | n + 1 => (alls n).flatMap fun l => [false :: l, true :: l]
theorem mem_alls : ∀ (l : List Bool), l ∈ alls l.length
  | [] => by simp [alls]
  | x :: l => by
    simp only [List.length_cons, alls, List.mem_flatMap]
    exact ⟨l, mem_alls l, by cases x <;> simp⟩
theorem alls_len : ∀ {n : Nat} {l : List Bool}, l ∈ alls n → l.length = n
  | 0, l, h => by simp [alls] at h; subst h; rfl
  | n + 1, l, h => by
    simp only [alls, List.mem_flatMap] at h
    obtain ⟨l', h1, h2⟩ := h
    have := alls_len h1
    simp at h2
    rcases h2 with rfl | rfl <;> simp [this]
/-- Loads and bins that hold all that is come to from loads without a bin. -/
def Shut (F : List (List Bool)) (m : List Int) (A B : List Bool) : Prop :=
  ∀ l, l < F.length → (m.getD l (-1) = -1 → A.getD l false = true) ∧ ∀ b, b < bins F → (A.getD l false = true → fit F l b = true → B.getD b false = true) ∧ (B.getD b false = true → m.getD l (-1) = (b : Int) → A.getD l false = true)
def shutB (F : List (List Bool)) (m : List Int) (A B : List Bool) : Bool :=
  (List.range F.length).all fun l => (!(m.getD l (-1) == -1) || A.getD l false) && (List.range (bins F)).all fun b => (!(A.getD l false && fit F l b) || B.getD b false) && (!(B.getD b false && (m.getD l (-1) == (b : Int))) || A.getD l false)
theorem shutB_iff {F : List (List Bool)} {m : List Int} {A B : List Bool} : shutB F m A B = true ↔ Shut F m A B := by
  simp only [shutB, Shut, List.all_eq_true, List.mem_range, Bool.and_eq_true, Bool.or_eq_true, Bool.not_eq_true', beq_eq_false_iff_ne, Bool.and_eq_false_imp]
  constructor
  · intro h l hl
    refine ⟨fun e => (h l hl).1.resolve_left fun c => c e, fun b hb => ⟨fun h1 h2 => ?_, fun h1 h2 => ?_⟩⟩
    · rcases ((h l hl).2 b hb).1 with c | c
      · have := c h1; simp [h2] at this
      · exact c
    · rcases ((h l hl).2 b hb).2 with c | c
      · exact absurd h2 (c h1)
      · exact c
  · intro h l hl
    refine ⟨?_, fun b hb => ⟨?_, ?_⟩⟩
    · by_cases e : m.getD l (-1) = -1
      · exact Or.inr ((h l hl).1 e)
      · exact Or.inl e
    · cases e : B.getD b false
      · refine Or.inl fun h1 => ?_
        cases e2 : fit F l b
        · rfl
        · have := ((h l hl).2 b hb).1 h1 e2; rw [e] at this; cases this
      · exact Or.inr rfl
    · cases e : A.getD l false
      · refine Or.inl fun h1 h2 => ?_
        have := ((h l hl).2 b hb).2 h1 h2; rw [e] at this; cases this
      · exact Or.inr rfl
/-- The loads and the bins come to. -/
def rL (F : List (List Bool)) (m : List Int) : List Bool := (List.range F.length).map fun l => (alls F.length).all fun A => (alls (bins F)).all fun B => !shutB F m A B || A.getD l false
def rB (F : List (List Bool)) (m : List Int) : List Bool := (List.range (bins F)).map fun b => (alls F.length).all fun A => (alls (bins F)).all fun B => !shutB F m A B || B.getD b false
theorem rL_len (F : List (List Bool)) (m : List Int) : (rL F m).length = F.length := by simp [rL]
theorem rB_len (F : List (List Bool)) (m : List Int) : (rB F m).length = bins F := by simp [rB]
theorem rL_iff {F : List (List Bool)} {m : List Int} {l : Nat} (hl : l < F.length) : (rL F m).getD l false = true ↔ ∀ A B : List Bool, A.length = F.length → B.length = bins F → Shut F m A B → A.getD l false = true := by
  have e : (rL F m).getD l false = (alls F.length).all fun A => (alls (bins F)).all fun B => !shutB F m A B || A.getD l false := by simp [rL, hl]
  rw [e]
  simp only [List.all_eq_true, Bool.or_eq_true, Bool.not_eq_true']
  constructor
  · intro h A B hA hB hS
    rcases h A (hA ▸ mem_alls A) B (hB ▸ mem_alls B) with c | c
    · rw [shutB_iff.2 hS] at c; cases c
    · exact c
  · intro h A hA B hB
    cases c : shutB F m A B
    · exact Or.inl rfl
    · exact Or.inr (h A B (alls_len hA) (alls_len hB) (shutB_iff.1 c))
theorem rB_iff {F : List (List Bool)} {m : List Int} {b : Nat} (hb : b < bins F) : (rB F m).getD b false = true ↔ ∀ A B : List Bool, A.length = F.length → B.length = bins F → Shut F m A B → B.getD b false = true := by
  have e : (rB F m).getD b false = (alls F.length).all fun A => (alls (bins F)).all fun B => !shutB F m A B || B.getD b false := by simp [rB, hb]
  rw [e]
  simp only [List.all_eq_true, Bool.or_eq_true, Bool.not_eq_true']
  constructor
  · intro h A B hA hB hS
    rcases h A (hA ▸ mem_alls A) B (hB ▸ mem_alls B) with c | c
    · rw [shutB_iff.2 hS] at c; cases c
    · exact c
  · intro h A hA B hB
    cases c : shutB F m A B
    · exact Or.inl rfl
    · exact Or.inr (h A B (alls_len hA) (alls_len hB) (shutB_iff.1 c))
theorem shut_r (F : List (List Bool)) (m : List Int) : Shut F m (rL F m) (rB F m) := by
  intro l hl
  refine ⟨fun e => (rL_iff hl).2 fun A B _ _ hS => (hS l hl).1 e, fun b hb => ⟨fun h1 h2 => (rB_iff hb).2 fun A B hA hB hS => ((hS l hl).2 b hb).1 ((rL_iff hl).1 h1 A B hA hB hS) h2, fun h1 h2 => (rL_iff hl).2 fun A B hA hB hS => ((hS l hl).2 b hb).2 ((rB_iff hb).1 h1 A B hA hB hS) h2⟩⟩
/-- What is come to at most. -/
def Come (F : List (List Bool)) (m : List Int) (A B : List Bool) : Prop := A.length = F.length ∧ B.length = bins F ∧ (∀ l, l < F.length → A.getD l false = true → (rL F m).getD l false = true) ∧ ∀ b, b < bins F → B.getD b false = true → (rB F m).getD b false = true
theorem bext {a b : List Bool} (hl : a.length = b.length) (h : ∀ i, i < a.length → (a.getD i false = true ↔ b.getD i false = true)) : a = b := by
  apply List.ext_getElem hl
  intro i h1 h2
  have := h i h1
  simp [h1, h2] at this
  exact this
theorem come_eq {F : List (List Bool)} {m : List Int} {A B : List Bool} (h : Come F m A B) (hS : Shut F m A B) : A = rL F m ∧ B = rB F m := by
  obtain ⟨h1, h2, h3, h4⟩ := h
  refine ⟨bext (by rw [h1, rL_len]) fun i hi => ⟨h3 i (by omega), fun e => (rL_iff (by omega)).1 e A B h1 h2 hS⟩, bext (by rw [h2, rB_len]) fun i hi => ⟨h4 i (by omega), fun e => (rB_iff (by omega)).1 e A B h1 h2 hS⟩⟩
/-- A bin come to has a load. -/
theorem Inv.owned {F : List (List Bool)} {m own : List Int} (h : Inv F F.length m own) {b : Nat} (hb : b < bins F) (hr : (rB F m).getD b false = true) : ∃ l : Nat, l < F.length ∧ own.getD b (-1) = (l : Int) ∧ m.getD l (-1) = (b : Int) := by
  obtain ⟨R, hR, hU⟩ := h.clo
  have key : 0 ≤ own.getD b (-1) := by
    apply Classical.byContradiction
    intro hn
    -- the bins of R, and the loads that fit nothing outside
    have dec : ∀ (P : Nat → Prop) (n : Nat), ∃ L : List Bool, L.length = n ∧ ∀ i, i < n → (L.getD i false = true ↔ P i) := by
      intro P n
      induction n with
      | zero => exact ⟨[], rfl, fun i hi => by omega⟩
      | succ n ih =>
        obtain ⟨L, hL, hP⟩ := ih
        rcases Classical.em (P n) with hp | hp
        · refine ⟨L ++ [true], by simp [hL], fun i hi => ?_⟩
          by_cases e : i = n
          · subst e; simp [← hL]; simpa [hL] using hp
          · have := hP i (by omega)
            have hi' : i < L.length := by omega
            simpa [List.getElem?_append, hi'] using this
        · refine ⟨L ++ [false], by simp [hL], fun i hi => ?_⟩
          by_cases e : i = n
          · subst e; simp [← hL]; simpa [hL] using hp
          · have := hP i (by omega)
            have hi' : i < L.length := by omega
            simpa [List.getElem?_append, hi'] using this
    obtain ⟨B, hB, hBP⟩ := dec R (bins F)
    obtain ⟨A, hA, hAP⟩ := dec (fun l => ∀ b', b' < bins F → fit F l b' = true → R b') F.length
    have hS : Shut F m A B := by
      intro l hl
      refine ⟨fun e => (hAP l hl).2 (hU l hl hl e), fun c hc => ⟨fun h1 h2 => (hBP c hc).2 ((hAP l hl).1 h1 c hc h2), fun h1 h2 => (hAP l hl).2 ?_⟩⟩
      have ho := h.mo.mo l c hl hc h2
      have := (hR c hc ((hBP c hc).1 h1)).2
      rw [ho] at this
      exact this
    have := (hBP b hb).1 ((rB_iff hb).1 hr A B hA hB hS)
    exact hn (hR b hb this).1
  rcases h.mo.om b hb with e | ⟨l, h1, h2, h3, _⟩
  · omega
  · exact ⟨l, h1, h2, h3⟩
/-- The numbers of those that are so. -/
def those (l : List Bool) (so : Bool) : List Int := ((List.range l.length).filter fun i => l.getD i false == so).map fun (i : Nat) => (i : Int)
def thoseTo (l : List Bool) (so : Bool) (k : Nat) : List Int := ((List.range k).filter fun i => l.getD i false == so).map fun (i : Nat) => (i : Int)
theorem thoseTo_step (l : List Bool) (so : Bool) (k : Nat) : thoseTo l so (k + 1) = if l.getD k false == so then thoseTo l so k ++ [(k : Int)] else thoseTo l so k := by
  unfold thoseTo
  rw [List.range_succ, List.filter_append, List.map_append]
  split <;> rename_i h
  · simp only [List.filter_cons, h, if_true, List.filter_nil]; rfl
  · simp only [List.filter_cons, h]; simp
theorem mem_those {l : List Bool} {so : Bool} {x : Int} : x ∈ those l so ↔ ∃ i : Nat, i < l.length ∧ l.getD i false = so ∧ x = (i : Int) := by
  simp only [those, List.mem_map, List.mem_filter, List.mem_range, beq_iff_eq]
  constructor
  · rintro ⟨i, ⟨h1, h2⟩, rfl⟩; exact ⟨i, h1, h2, rfl⟩
  · rintro ⟨i, h1, h2, rfl⟩; exact ⟨i, ⟨h1, h2⟩, rfl⟩
theorem those_has {l : List Bool} {so : Bool} {i : Nat} (hi : i < l.length) : (those l so).contains (i : Int) = (l.getD i false == so) := by
  rw [List.contains_eq_mem]
  rw [Bool.eq_iff_iff, decide_eq_true_iff, beq_iff_eq, mem_those]
  constructor
  · rintro ⟨j, _, h, e⟩; have : i = j := by omega
    subst this; exact h
  · exact fun h => ⟨i, hi, h, rfl⟩
theorem those_rise (l : List Bool) (so : Bool) : (those l so).Pairwise (· < ·) := by
  unfold those
  rw [List.pairwise_map]
  have : ((List.range l.length).filter fun i => l.getD i false == so).Pairwise (· < ·) := List.Pairwise.filter _ List.pairwise_lt_range
  exact this.imp fun h => by omega
theorem those_nodup (l : List Bool) (so : Bool) : (those l so).Nodup := (those_rise l so).imp fun h => by omega
/-- A rising list is told by what is in it. -/
theorem rise_ext : ∀ {a b : List Int}, a.Pairwise (· < ·) → b.Pairwise (· < ·) → (∀ x, x ∈ a ↔ x ∈ b) → a = b := fun {a b} ha hb h => by
  have p : a.Perm b := (List.perm_ext_iff_of_nodup (ha.imp fun h => by omega) (hb.imp fun h => by omega)).2 h
  exact p.eq_of_pairwise (fun x y _ _ h1 h2 => by omega) ha hb
theorem all_yes {n : Nat} {p : Nat → Bool} (h : (List.range n).all p = true) {i : Nat} (hi : i < n) : p i = true := by
  simp only [List.all_eq_true, List.mem_range] at h; exact h i hi
theorem all_of {n : Nat} {p : Nat → Bool} (h : ∀ i, i < n → p i = true) : (List.range n).all p = true := by
  simp only [List.all_eq_true, List.mem_range]; exact h
theorem all_not {n : Nat} {p : Nat → Bool} {i : Nat} (hi : i < n) (h : p i = false) : (List.range n).all p = false := by
  cases e : (List.range n).all p
  · rfl
  · rw [all_yes e hi] at h; cases h
/-- The first place of x, or -1. -/
def idx (xs : List Int) (x : Int) : Int := if xs.contains x then (xs.idxOf x : Int) else -1
theorem idx_none {xs : List Int} {x : Int} (h : ∀ j, j < xs.length → (xs.getD j 0 == x) = false) : idx xs x = -1 := by
  have : xs.contains x = false := by
    rw [List.contains_eq_mem, decide_eq_false_iff_not]
    intro hm
    obtain ⟨i, hi, rfl⟩ := List.getElem_of_mem hm
    have := h i hi
    simp [hi] at this
  unfold idx; rw [if_neg (by rw [this]; simp)]
theorem idx_at : ∀ {xs : List Int} {x : Int} {k : Nat}, k < xs.length → (xs.getD k 0 == x) = true → (∀ j, j < k → (xs.getD j 0 == x) = false) → idx xs x = (k : Int)
  | xs, x, k, hk, h, hn => by
    have hx : xs[k] = x := by simpa [hk] using h
    have hm : xs.contains x = true := by rw [List.contains_eq_mem, decide_eq_true_iff, ← hx]; exact List.getElem_mem hk
    unfold idx
    rw [if_pos hm]
    have hl : xs.idxOf x < xs.length := List.idxOf_lt_length_iff.2 (by simpa using hm)
    have e : xs[xs.idxOf x] = x := List.getElem_idxOf hl
    have h1 : ¬ xs.idxOf x < k := fun c => by have := hn _ c; simp [hl] at this
    have h2 : ¬ k < xs.idxOf x := fun c => by
      have := List.not_of_lt_findIdx c
      simp [hx] at this
    omega
theorem idx_has (xs : List Int) (x : Int) : decide (0 ≤ idx xs x) = xs.contains x := by
  unfold idx
  cases h : xs.contains x
  · rfl
  · rw [if_pos rfl]; simp
theorem MO.idx_eq {F : List (List Bool)} {m own : List Int} (h : MO F m own) {b : Nat} (hb : b < bins F) : idx m (b : Int) = own.getD b (-1) := by
  have g : ∀ j, j < m.length → m.getD j 0 = m.getD j (-1) := fun j hj => by simp [hj]
  rcases h.first hb with ⟨e, hn⟩ | ⟨l, hl, e, hm, hu⟩
  · rw [e]; exact idx_none fun j hj => by rw [g j hj]; simpa using hn j hj
  · rw [e]; refine idx_at hl (by rw [g l hl, hm]; simp) fun j hj => ?_
    rw [g j (by omega), beq_eq_false_iff_ne]
    intro c
    have := hu j (by omega) c
    omega
/-- How many are not -1. -/
def cnt (m : List Int) : Nat := (m.filter fun x => x != -1).length
def cntTo (m : List Int) (k : Nat) : Nat := cnt (m.take k)
theorem cntTo_step {m : List Int} {k : Nat} (hk : k < m.length) : cntTo m (k + 1) = cntTo m k + (if m.getD k 0 == -1 then 0 else 1) := by
  unfold cntTo cnt
  rw [List.take_add_one, List.getElem?_eq_getElem hk, Option.toList_some, List.filter_append, List.length_append, Pf.getD_lt m 0 hk]
  by_cases e : m[k] = -1 <;> simp [e]
theorem cntTo_le (m : List Int) (k : Nat) : cntTo m k ≤ m.length := by
  unfold cntTo cnt
  exact Nat.le_trans (List.length_filter_le _ _) (by simp; omega)
theorem cntTo_all (m : List Int) : cntTo m m.length = cnt m := by simp [cntTo]
def cntB (m : List Int) : Bool := decide (m.length ≤ 8) && Pf.allB m (-1) 7
def cntI (m : List Int) : Int := if cntB m then (cnt m : Int) else 0
/-- Rising numbers below many. -/
def least (l : List Int) (i : Nat) : Int := if i = 0 then 0 else l.getD (i - 1) 0 + 1
def riseAt (l : List Int) (many i : Nat) : Bool := Pf.inB (l.getD i 0) (least l i) ((many : Int) - 1)
def riseB (l : List Int) (many : Nat) : Bool := (List.range l.length).all (riseAt l many)
theorem least_nn {l : List Int} {many k : Nat} (h : ∀ i, i < k → riseAt l many i = true) : 0 ≤ least l k := by
  induction k with
  | zero => simp [least]
  | succ k ih =>
    have h1 := ih fun i hi => h i (by omega)
    have h2 := Pf.inB_yes (h k (by omega))
    simp [least]
    simp at h2
    omega
/-- Whether load i's bin is none, or fits it and is no earlier one's. -/
def matAt (F : List (List Bool)) (m : List Int) (i : Nat) : Bool := m.getD i 0 == -1 || (Pf.inB (m.getD i 0) 0 ((bins F : Int) - 1) && (fit F i (m.getD i 0).toNat && !(m.take i).contains (m.getD i 0)))
def matB (F : List (List Bool)) (m : List Int) : Bool := decide (m.length = F.length) && (List.range F.length).all (matAt F m)
theorem matB_ne {F : List (List Bool)} {m : List Int} (h : m.length ≠ F.length) : matB F m = false := by simp [matB, h]
theorem matB_len {F : List (List Bool)} {m : List Int} (h : m.length = F.length) : matB F m = (List.range F.length).all (matAt F m) := by simp [matB, h]
def imB (F : List (List Bool)) (m : List Int) : Bool := if goodB F then matB F m else false
/-- Whether load l that fits bin b is among loads, or b among bins. -/
def covAt (F : List (List Bool)) (ls bs : List Int) (l b : Nat) : Bool := !fit F l b || (ls.contains (l : Int) || bs.contains (b : Int))
def covB (F : List (List Bool)) (ls bs : List Int) : Bool := (List.range F.length).all fun l => (List.range (bins F)).all (covAt F ls bs l)
def icB (F : List (List Bool)) (ls bs : List Int) : Bool := goodB F && (riseB ls F.length && riseB bs (bins F))
def icI (F : List (List Bool)) (ls bs : List Int) : Bool := if icB F ls bs then covB F ls bs else false
/-- Rising numbers below many are at most so many. -/
theorem rise_least {l : List Int} {many : Nat} : ∀ {k : Nat}, (∀ i, i < k → riseAt l many i = true) → (k : Int) ≤ least l k
  | 0, _ => by simp [least]
  | k + 1, h => by
    have ih := rise_least (l := l) (many := many) (k := k) fun i hi => h i (by omega)
    have h2 := Pf.inB_yes (h k (by omega))
    simp only [least, Nat.add_sub_cancel, Nat.add_eq_zero_iff, Nat.one_ne_zero, and_false, if_false]
    omega
theorem riseB_len {l : List Int} {many : Nat} (h : riseB l many = true) : l.length ≤ many := by
  cases e : l.length with
  | zero => omega
  | succ k =>
    have h1 := fun i (hi : i < k + 1) => all_yes h (i := i) (by omega)
    have h2 := rise_least (k := k) fun i hi => h1 i (by omega)
    have h3 := Pf.inB_yes (h1 k (by omega))
    omega
theorem icB_len {F : List (List Bool)} {ls bs : List Int} (h : icB F ls bs = true) : ls.length ≤ 8 ∧ bs.length ≤ 8 := by
  simp only [icB, Bool.and_eq_true] at h
  obtain ⟨h1, h2, h3⟩ := h
  have := goodB_len h1; have := goodB_bins h1; have := riseB_len h2; have := riseB_len h3
  omega
end Go.Proofs.Ytkebaklmkidfoaa.Ma
