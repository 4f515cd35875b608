/-
  What FluidCost answers, the program's and the model's.
-/
import Derived.Test.YtmhednkbpniphaaSe
import Derived.Test.YtmhednkbpniphaaUa
namespace Go.Proofs.Ytmhednkbpniphaa
open Go.RowKit

theorem fluid_len {fs cs : List Int} {n m : Nat} (hn : Hid (fs.length = n)) (hm : Hid (cs.length = m)) (hs : Fd.fluidB fs cs = true) : m = n := by
  have := (Fd.fluidB_yes hs).2.1
  have := hn.out
  have := hm.out
  omega
/-- Why two lists are no flows and parts. -/
theorem fluid_no {fs cs : List Int} {n m : Nat} (hn : Hid (fs.length = n)) (hm : Hid (cs.length = m)) (hs : Fd.fluidB fs cs = false) : Sh.flowB fs = false ∨ (Sh.flowB fs = true ∧ m ≠ n) ∨ (Sh.flowB fs = true ∧ m = n ∧ Pf.allB cs 1 1000 = false) := by
  have h1 := hn.out
  have h2 := hm.out
  cases h3 : Sh.flowB fs
  · exact Or.inl rfl
  · by_cases h4 : m = n
    · refine Or.inr (Or.inr ⟨rfl, h4, ?_⟩)
      simp only [Fd.fluidB, h3, h1, h2, h4, decide_true, Bool.true_and] at hs
      exact hs
    · exact Or.inr (Or.inl ⟨rfl, h4⟩)
set_option maxRecDepth 100000 in
set_option maxHeartbeats 400000 in
theorem costAtF_any {f c : Int} {w : World} (f0 : 1 ≤ f) (f1 : f ≤ 30) (c0 : 1 ≤ c) (c1 : c ≤ 1000) :
    Calls Try.prog 35 #[.int .i64 f, .int .i64 c] w fun e w' => e = .returned (fv (Sh.cost f c)) ∧ Below w.heap.size w w' := by
  go_enter Try.func35, Try.ntmps35
  go_wp2_with (go_at_call 67; refine (lowest_pos f c _ (by omega) (by omega) (by omega) (by omega)).mono ?_; rintro e w1 ⟨rfl, hb⟩; obtain ⟨hc, hf⟩ := bcell hb; have hz : w.heap.size < w1.heap.size := by have := hb.size; simp at this; omega)
  exact bodyPost_ret (v := fv (Sh.cost f c)) (by simp [results, Try.results35, go_sem, hc, fv, Sh.cost, Sh.mk]) rfl ⟨rfl, below_set2 hb (Nat.le_refl _) (Nat.le_refl _)⟩
set_option maxRecDepth 100000 in
set_option maxHeartbeats 2000000 in
theorem eachF_any {a b : Option Addr} {n c d g : Nat} {fs cs : List Int} {w : World} (F : Int → Int → Int × Int) (eg : ∀ args w, (callFunc g args).run Try.prog w = .ok (.enter g args) w)
    (hF : Hid (∀ f c w, 1 ≤ f → f ≤ 30 → 1 ≤ c → c ≤ 1000 → Calls Try.prog g #[.int .i64 f, .int .i64 c] w fun e w' => e = .returned (fv (F f c)) ∧ Below w.heap.size w w'))
    (h : Hid (ARow w a fs)) (hn : Hid (fs.length = n)) (h' : Hid (ARow w b cs)) (hs : Hid (Fd.fluidB fs cs = true)) :
    Calls Try.prog 34 #[.slice a n c, .slice b n d, .func (.func g) #[] #[]] w fun e w' => ∃ v, e = .returned v ∧ Below w.heap.size w w' ∧ w'.ownsRow w.heap.size 27 2 v n (fcells (Sh.each F fs cs)) := by
  obtain ⟨i0, hi, hz0, hz1, hz2⟩ := info_parts infF
  have hm : Hid (cs.length = n) := hide (by rw [(Fd.fluidB_yes hs.out).2.1]; exact hn.out)
  have h8 : n ≤ 8 := by have := Sh.flowB_yes (Fd.fluidB_yes hs.out).1; have := hn.out; omega
  go_enter Try.func34, Try.ntmps34
  go_wp2_with fail
  go_loopw [7, 8, 9, 12] (fun v _ _ s wr => ∃ k : Nat, s = .int .i64 k ∧ k ≤ n ∧ wr.ownsRow w.heap.size 27 2 v k (fcells ((Sh.each F fs cs).take k)) ∧ Below w.heap.size w wr) (fun _ _ _ s _ => n - (intOf s).toNat)
  case atStart => exact ⟨0, rfl, Nat.zero_le _, World.ownsRow_nil _ _ _ _, Below.refl _ _⟩
  case round =>
    obtain ⟨k, rfl, hk, hown, hB⟩ := hrel
    by_cases hlt : k < n
    · obtain ⟨ba, oa, rfl, r1⟩ := (h.out.below hB).at (i := k) (by rw [hn.out]; exact hlt)
      obtain ⟨bb, ob, rfl, r2⟩ := (h'.out.below hB).at (i := k) (by rw [hm.out]; exact hlt)
      have k0 : (0 : Int) ≤ (k : Int) := by omega
      have k1 : (k : Int) < (n : Int) := by omega
      obtain ⟨f0, f1⟩ := Sh.flowB_at (Fd.fluidB_yes hs.out).1 (i := k) (by rw [hn.out]; exact hlt)
      obtain ⟨c0, c1⟩ := Fd.fluidB_at hs.out (i := k) (by rw [hn.out]; exact hlt)
      have HT := hide (each_take F fs cs k (by rw [hn.out]; exact hlt))
      generalize fs.getD k 0 = x at *
      generalize cs.getD k 0 = y at *
      have hcall := hide (hF.out x y wr f0 f1 c0 c1)
      generalize F x y = p at *
      rw [fv_eq] at hcall
      have hown1 := hide hown
      clear hown
      go_wp2_with (first
        | (go_at_fn g; refine hcall.out.mono ?_; rintro e w1 ⟨rfl, hb1⟩; have own1 := own_below hown1.out hb1; have hs1 := hb1.size; have hs2 := hB.size)
        | (at_builtin; refine wpList_append_own _ rfl _ _ 61 rfl w.heap.size 27 i0 (.agg #[.int .i64 0, .int .i64 0]) 2 16 Try.underlying61 hi hz0 hz1 hz2 rfl (by decide) _ _ _ rfl (own1.alloc _) ⟨w1.heap.size, 0, none⟩ 1 1 [.int .i64 p.1, .int .i64 p.2] rfl rfl (new_frac _ _ _ rfl) (frac_cells _) (by unfold maxLen; omega) (by omega) (by simp; omega) ?_))
      intro v' w4 hown' hgrow _
      have hfin := own_grow own1 hgrow (Nat.le_refl _) (by omega)
      rw [← fcells_snoc, ← HT.out] at hown'
      go_wp2_with fail
      go_roundw
      case rel => exact ⟨k + 1, by go_num, by omega, hown', (hB.trans (hb1.mono hs2)).trans hfin⟩
      case measure => simp only [intOf]; omega
    · have hke : k = n := by omega
      subst hke
      have HE : Hid ((Sh.each F fs cs).take k = Sh.each F fs cs) := hide (by rw [List.take_of_length_le]; rw [Sh.each_len, hn.out]; exact Nat.le_refl _)
      rw [HE.out] at hown
      go_wp2_with fail
      go_ret
      exact ⟨_, rfl, hB, hown⟩

def fluB (fs cs : List Int) : Bool := Fd.fluidB fs cs && Fr.sumB (Sh.each Sh.cost fs cs)
def fluF (fs cs : List Int) : Int × Int := if Fd.fluidB fs cs = true then (Fr.sumN (Sh.each Sh.cost fs cs), Fr.sumD (Sh.each Sh.cost fs cs)) else (0, 0)
theorem sumF5_eqn {b n cap : Nat} {xs : List (Int × Int)} {w : World} (hr : Hid (RowAt w b 0 xs)) (hn : Hid (xs.length = n)) (hb : b < w.heap.size) :
    Calls Try.prog 33 #[.slice (some ⟨b, 0, none⟩) n cap] w fun e w' => e = .returned (fb (Fr.sumN xs, Fr.sumD xs) (Fr.sumB xs)) ∧ Below w.heap.size w w' := by
  have := hn.out
  subst this
  exact sum_any b 0 cap xs w hr.out hb
set_option maxRecDepth 100000 in
set_option maxHeartbeats 1000000 in
theorem fc_bad1 {a b : Option Addr} {n m c d : Nat} {fs : List Int} {w : World} (h : Hid (ARow w a fs)) (hn : Hid (fs.length = n)) (H1 : Hid (Sh.flowB fs = false)) :
    Calls Try.prog 6 #[.slice a n c, .slice b m d] w fun e w' => e = .returned (fb (0, 0) false) ∧ Below w.heap.size w w' := by
  go_enter Try.func6, Try.ntmps6
  go_wp2_with (go_at_call 31; refine (flows_eq (hide (h.out.alloc _)) hn H1).mono ?_; rintro e w1 ⟨rfl, rfl⟩)
  exact bodyPost_ret (v := fb (0, 0) false) (by simp [results, Try.results6, go_sem, fb]) rfl ⟨rfl, (Below.refl _ _).alloc (Nat.le_refl _) _⟩
set_option maxRecDepth 100000 in
set_option maxHeartbeats 1000000 in
theorem fc_bad2 {a b : Option Addr} {n m c d : Nat} {fs : List Int} {w : World} (h : Hid (ARow w a fs)) (hn : Hid (fs.length = n)) (H1 : Hid (Sh.flowB fs = true)) (hne : m ≠ n) :
    Calls Try.prog 6 #[.slice a n c, .slice b m d] w fun e w' => e = .returned (fb (0, 0) false) ∧ Below w.heap.size w w' := by
  have he : ((m : Int) != (n : Int)) = true := by simp; omega
  go_enter Try.func6, Try.ntmps6
  go_wp2_with (go_at_call 31; refine (flows_eq (hide (h.out.alloc _)) hn H1).mono ?_; rintro e w1 ⟨rfl, rfl⟩)
  exact bodyPost_ret (v := fb (0, 0) false) (by simp [results, Try.results6, go_sem, fb]) rfl ⟨rfl, (Below.refl _ _).alloc (Nat.le_refl _) _⟩
set_option maxRecDepth 100000 in
set_option maxHeartbeats 1000000 in
theorem fc_bad3 {a b : Option Addr} {n m c d : Nat} {fs cs : List Int} {w : World} (h : Hid (ARow w a fs)) (hn : Hid (fs.length = n)) (h' : Hid (ARow w b cs)) (hm : Hid (cs.length = m)) (H1 : Hid (Sh.flowB fs = true)) (hne : m = n) (H2 : Hid (Pf.allB cs 1 1000 = false)) :
    Calls Try.prog 6 #[.slice a n c, .slice b m d] w fun e w' => e = .returned (fb (0, 0) false) ∧ Below w.heap.size w w' := by
  subst hne
  have he : ((m : Int) != (m : Int)) = false := by simp
  have h8 : m ≤ 1000 := by have := Sh.flowB_yes H1.out; have := hn.out; omega
  go_enter Try.func6, Try.ntmps6
  go_wp2_with (first
    | (go_at_call 31; refine (flows_eq (hide (h.out.alloc _)) hn H1).mono ?_; rintro e w1 ⟨rfl, rfl⟩)
    | (go_at_call 32; refine (areb_eqn (hide (h'.out.alloc _)) hm h8 H2).mono ?_; rintro e w1 ⟨rfl, rfl⟩))
  exact bodyPost_ret (v := fb (0, 0) false) (by simp [results, Try.results6, go_sem, fb]) rfl ⟨rfl, (Below.refl _ _).alloc (Nat.le_refl _) _⟩
theorem fc_bad {a b : Option Addr} {n m c d : Nat} {fs cs : List Int} {w : World} (h : Hid (ARow w a fs)) (hn : Hid (fs.length = n)) (h' : Hid (ARow w b cs)) (hm : Hid (cs.length = m)) (hs : Fd.fluidB fs cs = false) :
    Calls Try.prog 6 #[.slice a n c, .slice b m d] w fun e w' => e = .returned (fb (0, 0) false) ∧ Below w.heap.size w w' := by
  rcases fluid_no hn hm hs with h1 | ⟨h1, h2⟩ | ⟨h1, h2, h3⟩
  · exact fc_bad1 h hn (hide h1)
  · exact fc_bad2 h hn (hide h1) h2
  · exact fc_bad3 h hn h' hm (hide h1) h2 (hide h3)
set_option maxRecDepth 100000 in
set_option maxHeartbeats 2000000 in
theorem fc_yes {a b : Option Addr} {n c d : Nat} {fs cs : List Int} {w : World} (h : Hid (ARow w a fs)) (hn : Hid (fs.length = n)) (h' : Hid (ARow w b cs)) (hm : Hid (cs.length = n)) (hs : Hid (Fd.fluidB fs cs = true)) :
    Calls Try.prog 6 #[.slice a n c, .slice b n d] w fun e w' => e = .returned (fb (Fr.sumN (Sh.each Sh.cost fs cs), Fr.sumD (Sh.each Sh.cost fs cs)) (Fr.sumB (Sh.each Sh.cost fs cs))) ∧ Below w.heap.size w w' := by
  have H1 := hide (Fd.fluidB_yes hs.out).1
  have H2 := hide (Fd.fluidB_yes hs.out).2.2
  have h8 : n ≤ 1000 := by have := Sh.flowB_yes H1.out; have := hn.out; omega
  have he : ((n : Int) != (n : Int)) = false := by simp
  have e1 : ∀ args w, (callFunc 35 args).run Try.prog w = .ok (.enter 35 args) w := enters_of Try.func35 (by kernel_rfl) rfl
  have n1 : 0 < n := by have := Sh.flowB_yes (Fd.fluidB_yes hs.out).1; have := hn.out; omega
  have HL : Hid ((Sh.each Sh.cost fs cs).length = n) := hide (by rw [Sh.each_len]; exact hn.out)
  have hcall := hide (fun o => eachF_any (w := w.alloc o) (c := c) (d := d) Sh.cost e1 (hide fun f c w f0 f1 c0 c1 => costAtF_any f0 f1 c0 c1) (hide (h.out.alloc o)) hn (hide (h'.out.alloc o)) hs)
  generalize Sh.each Sh.cost fs cs = xs at *
  have hsum := hide (fun b cap (w' : World) hr hb => sumF5_eqn (b := b) (cap := cap) (w := w') (xs := xs) hr HL hb)
  generalize Fr.sumN xs = p1 at *
  generalize Fr.sumD xs = p2 at *
  generalize Fr.sumB xs = pb at *
  rw [fb_eq] at hsum
  go_enter Try.func6, Try.ntmps6
  go_wp2_with (first
    | (go_at_call 31; refine (flows_eq (hide (h.out.alloc _)) hn H1).mono ?_; rintro e w1 ⟨rfl, rfl⟩)
    | (go_at_call 32; refine (areb_eqn (hide (h'.out.alloc _)) hm h8 H2).mono ?_; rintro e w1 ⟨rfl, rfl⟩)
    | (go_at_call 34; refine (hcall.out _).mono ?_; rintro e w1 ⟨v, rfl, hb1, own1⟩; obtain ⟨g, cap, rfl, g0, g1, row1⟩ := (frow_owns HL.out own1).resolve_left (fun h => by have := h.2; omega); have R1 := hide row1; clear row1 own1)
    | (go_at_call 33; refine (hsum.out _ _ _ R1 g1).mono ?_; rintro e w2 ⟨rfl, hb2⟩; have hb3 := hb1.trans (hb2.mono hb1.size); obtain ⟨c4, c5, g4, g5⟩ := res_new' hb3))
  exact bodyPost_ret (v := fb (p1, p2) pb) (by simp [results, Try.results6, go_sem, c4, c5, fb]) rfl ⟨rfl, below_set2 hb3 (Nat.le_refl _) (Nat.le_refl _)⟩
theorem fc_any {a b : Option Addr} {n m c d : Nat} {fs cs : List Int} {w : World} (h : Hid (ARow w a fs)) (hn : Hid (fs.length = n)) (h' : Hid (ARow w b cs)) (hm : Hid (cs.length = m)) :
    Calls Try.prog 6 #[.slice a n c, .slice b m d] w fun e w' => e = .returned (fb (fluF fs cs) (fluB fs cs)) ∧ Below w.heap.size w w' := by
  unfold fluF fluB
  cases hs : Fd.fluidB fs cs
  · exact fc_bad h hn h' hm hs
  · obtain rfl := fluid_len hn hm hs
    exact fc_yes h hn h' hm (hide hs)
theorem ssumF5_eqn {b n cap : Nat} {xs : List (Int × Int)} {w : World} (hr : Hid (RowAt w b 0 xs)) (hn : Hid (xs.length = n)) (hb : b < w.heap.size) :
    Calls Try.prog 39 #[.slice (some ⟨b, 0, none⟩) n cap] w fun e w' => e = .returned (fb (Fr.sumN xs, Fr.sumD xs) (Fr.sumB xs)) ∧ Below w.heap.size w w' := by
  have := hn.out
  subst this
  exact ssum_any b 0 cap xs w hr.out hb
set_option maxRecDepth 100000 in
set_option maxHeartbeats 1000000 in
theorem sfc_bad1 {a b : Option Addr} {n m c d : Nat} {fs : List Int} {w : World} (h : Hid (ARow w a fs)) (hn : Hid (fs.length = n)) (H1 : Hid (Sh.flowB fs = false)) :
    Calls Try.prog 7 #[.slice a n c, .slice b m d] w fun e w' => e = .returned (fb (0, 0) false) ∧ Below w.heap.size w w' := by
  go_enter Try.func7, Try.ntmps7
  go_wp2_with (go_at_call 36; refine (sflows_eq (hide (h.out.alloc _)) hn H1).mono ?_; rintro e w1 ⟨rfl, rfl⟩)
  exact bodyPost_ret (v := fb (0, 0) false) (by simp [results, Try.results7, go_sem, fb]) rfl ⟨rfl, (Below.refl _ _).alloc (Nat.le_refl _) _⟩
set_option maxRecDepth 100000 in
set_option maxHeartbeats 1000000 in
theorem sfc_bad2 {a b : Option Addr} {n m c d : Nat} {fs : List Int} {w : World} (h : Hid (ARow w a fs)) (hn : Hid (fs.length = n)) (H1 : Hid (Sh.flowB fs = true)) (hne : m ≠ n) :
    Calls Try.prog 7 #[.slice a n c, .slice b m d] w fun e w' => e = .returned (fb (0, 0) false) ∧ Below w.heap.size w w' := by
  have he : ((m : Int) != (n : Int)) = true := by simp; omega
  go_enter Try.func7, Try.ntmps7
  go_wp2_with (go_at_call 36; refine (sflows_eq (hide (h.out.alloc _)) hn H1).mono ?_; rintro e w1 ⟨rfl, rfl⟩)
  exact bodyPost_ret (v := fb (0, 0) false) (by simp [results, Try.results7, go_sem, fb]) rfl ⟨rfl, (Below.refl _ _).alloc (Nat.le_refl _) _⟩
set_option maxRecDepth 100000 in
set_option maxHeartbeats 1000000 in
theorem sfc_bad3 {a b : Option Addr} {n m c d : Nat} {fs cs : List Int} {w : World} (h : Hid (ARow w a fs)) (hn : Hid (fs.length = n)) (h' : Hid (ARow w b cs)) (hm : Hid (cs.length = m)) (H1 : Hid (Sh.flowB fs = true)) (hne : m = n) (H2 : Hid (Pf.allB cs 1 1000 = false)) :
    Calls Try.prog 7 #[.slice a n c, .slice b m d] w fun e w' => e = .returned (fb (0, 0) false) ∧ Below w.heap.size w w' := by
  subst hne
  have he : ((m : Int) != (m : Int)) = false := by simp
  have h8 : m ≤ 1000 := by have := Sh.flowB_yes H1.out; have := hn.out; omega
  go_enter Try.func7, Try.ntmps7
  go_wp2_with (first
    | (go_at_call 36; refine (sflows_eq (hide (h.out.alloc _)) hn H1).mono ?_; rintro e w1 ⟨rfl, rfl⟩)
    | (go_at_call 37; refine (sall_eqn (hide (h'.out.alloc _)) hm h8 H2).mono ?_; rintro e w1 ⟨rfl, rfl⟩))
  exact bodyPost_ret (v := fb (0, 0) false) (by simp [results, Try.results7, go_sem, fb]) rfl ⟨rfl, (Below.refl _ _).alloc (Nat.le_refl _) _⟩
theorem sfc_bad {a b : Option Addr} {n m c d : Nat} {fs cs : List Int} {w : World} (h : Hid (ARow w a fs)) (hn : Hid (fs.length = n)) (h' : Hid (ARow w b cs)) (hm : Hid (cs.length = m)) (hs : Fd.fluidB fs cs = false) :
    Calls Try.prog 7 #[.slice a n c, .slice b m d] w fun e w' => e = .returned (fb (0, 0) false) ∧ Below w.heap.size w w' := by
  rcases fluid_no hn hm hs with h1 | ⟨h1, h2⟩ | ⟨h1, h2, h3⟩
  · exact sfc_bad1 h hn (hide h1)
  · exact sfc_bad2 h hn (hide h1) h2
  · exact sfc_bad3 h hn h' hm (hide h1) h2 (hide h3)
set_option maxRecDepth 100000 in
set_option maxHeartbeats 4000000 in
theorem sfc_yes {a b : Option Addr} {n c d : Nat} {fs cs : List Int} {w : World} (h : Hid (ARow w a fs)) (hn : Hid (fs.length = n)) (h' : Hid (ARow w b cs)) (hm : Hid (cs.length = n)) (hs : Hid (Fd.fluidB fs cs = true)) :
    Calls Try.prog 7 #[.slice a n c, .slice b n d] w fun e w' => e = .returned (fb (Fr.sumN (Sh.each Sh.cost fs cs), Fr.sumD (Sh.each Sh.cost fs cs)) (Fr.sumB (Sh.each Sh.cost fs cs))) ∧ Below w.heap.size w w' := by
  have H1 := hide (Fd.fluidB_yes hs.out).1
  have H2 := hide (Fd.fluidB_yes hs.out).2.2
  have h8 : n ≤ 1000 := by have := Sh.flowB_yes H1.out; have := hn.out; omega
  have he : ((n : Int) != (n : Int)) = false := by simp
  obtain ⟨i0, hi, hz0, hz1, hz2⟩ := info_parts infF
  have n1 : 0 < n ∧ n ≤ 8 := by have := Sh.flowB_yes (Fd.fluidB_yes hs.out).1; have := hn.out; omega
  obtain ⟨n0, n8⟩ := n1
  have HL : Hid ((Sh.each Sh.cost fs cs).length = n) := hide (by rw [Sh.each_len]; exact hn.out)
  go_enter Try.func7, Try.ntmps7
  go_wp2_with (first
    | (go_at_call 36; refine (sflows_eq (hide (h.out.alloc _)) hn H1).mono ?_; rintro e w1 ⟨rfl, rfl⟩)
    | (go_at_call 37; refine (sall_eqn (hide (h'.out.alloc _)) hm h8 H2).mono ?_; rintro e w1 ⟨rfl, rfl⟩))
  go_loopw [6, 7, 8, 27] (fun v _ _ s wr => ∃ k : Nat, s = .int .i64 k ∧ k ≤ n ∧ wr.ownsRow (w.heap.size + 1) 27 2 v k (fcells ((Sh.each Sh.cost fs cs).take k)) ∧ Hid (Below (w.heap.size + 1) (w.alloc (.cells #[.int .i64 0, .int .i64 0] 27)) wr)) (fun _ _ _ s _ => n - (intOf s).toNat)
  case atStart => exact ⟨0, rfl, Nat.zero_le _, World.ownsRow_nil _ _ _ _, hide (Below.refl _ _)⟩
  case round =>
    obtain ⟨k, rfl, hk, hown, HB⟩ := hrel
    have hBw : Below w.heap.size w wr := ((Below.refl _ _).alloc (Nat.le_refl _) _).trans (HB.out.mono (by omega))
    have hsz : w.heap.size + 1 ≤ wr.heap.size := by have := HB.out.size; simpa using this
    by_cases hlt : k < n
    · obtain ⟨ba, oa, rfl, r1⟩ := (h.out.below hBw).at (i := k) (by rw [hn.out]; exact hlt)
      obtain ⟨bb, ob, rfl, r2⟩ := (h'.out.below hBw).at (i := k) (by rw [hm.out]; exact hlt)
      have k0 : (0 : Int) ≤ (k : Int) := by omega
      have k1 : (k : Int) < (n : Int) := by omega
      obtain ⟨f0, f1⟩ := Sh.flowB_at (Fd.fluidB_yes hs.out).1 (i := k) (by rw [hn.out]; exact hlt)
      obtain ⟨c0, c1⟩ := Fd.fluidB_at hs.out (i := k) (by rw [hn.out]; exact hlt)
      have HT := hide (each_take Sh.cost fs cs k (by rw [hn.out]; exact hlt))
      generalize fs.getD k 0 = x at *
      generalize cs.getD k 0 = y at *
      have hcall : Hid (Calls Try.prog 38 #[.int .i64 x, .int .i64 y] wr fun e w' => e = .returned (fv (Sh.cost x y)) ∧ Below wr.heap.size wr w') := hide (make_pos x y wr (by omega) (by omega) (by omega) (by omega))
      generalize Sh.cost x y = p at *
      rw [fv_eq] at hcall
      have hown1 := hide hown
      clear hown
      go_wp2_with (first
        | (go_at_call 38; refine hcall.out.mono ?_; rintro e w1 ⟨rfl, hb1⟩; have own1 := own_below hown1.out hb1; have hs1 := hb1.size)
        | (at_builtin; refine wpList_append_own _ rfl _ _ 61 rfl (w.heap.size + 1) 27 i0 (.agg #[.int .i64 0, .int .i64 0]) 2 16 Try.underlying61 hi hz0 hz1 hz2 rfl (by decide) _ _ _ rfl (own1.alloc _) ⟨w1.heap.size, 0, none⟩ 1 1 [.int .i64 p.1, .int .i64 p.2] rfl rfl (new_frac _ _ _ rfl) (frac_cells _) (by unfold maxLen; omega) (by omega) (by simp; omega) ?_))
      intro v' w4 hown' hgrow _
      have hfin := own_grow own1 hgrow (Nat.le_refl _) (by omega)
      rw [← fcells_snoc, ← HT.out] at hown'
      go_wp2_with fail
      go_roundw
      case rel => exact ⟨k + 1, by go_num, by omega, hown', hide ((HB.out.trans (hb1.mono hsz)).trans hfin)⟩
      case measure => simp only [intOf]; omega
    · have hke : k = n := by omega
      subst hke
      have HE : Hid ((Sh.each Sh.cost fs cs).take k = Sh.each Sh.cost fs cs) := hide (by rw [List.take_of_length_le]; rw [HL.out]; exact Nat.le_refl _)
      rw [HE.out] at hown
      obtain ⟨g, cap, rfl, g0, g1, row1⟩ := (frow_owns HL.out hown).resolve_left (fun h => by have := h.2; omega)
      have hsum := hide (ssumF5_eqn (cap := cap) (hide row1) HL g1)
      generalize hp1 : Fr.sumN (Sh.each Sh.cost fs cs) = p1 at hsum
      generalize hp2 : Fr.sumD (Sh.each Sh.cost fs cs) = p2 at hsum
      generalize hp3 : Fr.sumB (Sh.each Sh.cost fs cs) = pb at hsum
      have HP := hide (And.intro hp1 (And.intro hp2 hp3))
      rw [fb_eq] at hsum
      clear row1 hown hp1 hp2 hp3
      go_wp2_with (go_at_call 39; refine hsum.out.mono ?_; rintro e w2 ⟨rfl, hb2⟩; have hb3 := below_up HB.out hb2 hsz; obtain ⟨c4, c5, g4, g5⟩ := res_new' hb3)
      exact bodyPost_ret (v := fb (p1, p2) pb) (by simp [results, Try.results7, go_sem, c4, c5, fb]) rfl ⟨by rw [HP.out.1, HP.out.2.1, HP.out.2.2], below_set2 hb3 (Nat.le_refl _) (Nat.le_refl _)⟩
theorem sfc_any {a b : Option Addr} {n m c d : Nat} {fs cs : List Int} {w : World} (h : Hid (ARow w a fs)) (hn : Hid (fs.length = n)) (h' : Hid (ARow w b cs)) (hm : Hid (cs.length = m)) :
    Calls Try.prog 7 #[.slice a n c, .slice b m d] w fun e w' => e = .returned (fb (fluF fs cs) (fluB fs cs)) ∧ Below w.heap.size w w' := by
  unfold fluF fluB
  cases hs : Fd.fluidB fs cs
  · exact sfc_bad h hn h' hm hs
  · obtain rfl := fluid_len hn hm hs
    exact sfc_yes h hn h' hm (hide hs)
end Go.Proofs.Ytmhednkbpniphaa
