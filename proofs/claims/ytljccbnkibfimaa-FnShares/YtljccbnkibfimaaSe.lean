/-
  What GainOf and CostOf answer, the program's and the model's.
-/
import Derived.Test.YtljccbnkibfimaaSd
namespace Go.Proofs.Ytljccbnkibfimaa
open Go.RowKit

def gainB (fs cs : List Int) (k : Int) : Bool := Sh.sharedB fs cs && Pf.inB k 0 ((fs.length : Int) - 1)
def gainF (fs cs : List Int) (k : Int) : Int × Int := if gainB fs cs k = true then Sh.gain (fs.getD k.toNat 0) (cs.getD k.toNat 0) else (0, 0)
def fb (p : Int × Int) (b : Bool) : Value := .tuple #[.agg #[.int .i64 p.1, .int .i64 p.2], .bool b]
theorem fb_eq (p : Int × Int) (b : Bool) : fb p b = .tuple #[.agg #[.int .i64 p.1, .int .i64 p.2], .bool b] := rfl
theorem below_up {w wr w2 : World} {o : Obj} (HB : Below (w.heap.size + 1) (w.alloc o) wr) (hb : Below wr.heap.size wr w2) (hs : w.heap.size + 1 ≤ wr.heap.size) : Below (w.alloc o).heap.size (w.alloc o) w2 := by
  have e : (w.alloc o).heap.size = w.heap.size + 1 := by simp
  rw [e]; exact HB.trans (hb.mono hs)

set_option maxRecDepth 100000 in
set_option maxHeartbeats 1000000 in
theorem go_bad {a b : Option Addr} {n m c d : Nat} {k : Int} {fs cs : List Int} {w : World} (h : Hid (ARow w a fs)) (hn : Hid (fs.length = n)) (h' : Hid (ARow w b cs)) (hm : Hid (cs.length = m)) (hs : Hid (Sh.sharedB fs cs = false)) :
    Calls Try.prog 22 #[.slice a n c, .slice b m d, .int .i64 k] w fun e w' => e = .returned (fb (0, 0) false) ∧ Below w.heap.size w w' := by
  go_enter Try.func22, Try.ntmps22
  go_wp2_with (go_at_call 45; refine (shared_eq (hide (h.out.alloc _)) hn (hide (h'.out.alloc _)) hm hs).mono ?_; rintro e w1 ⟨rfl, rfl⟩)
  exact bodyPost_ret (v := fb (0, 0) false) (by simp [results, Try.results22, go_sem, fb]) rfl ⟨rfl, (Below.refl _ _).alloc (Nat.le_refl _) _⟩
set_option maxRecDepth 100000 in
set_option maxHeartbeats 1000000 in
theorem go_out {a b : Option Addr} {n c d : Nat} {k : Int} {fs cs : List Int} {w : World} (h : Hid (ARow w a fs)) (hn : Hid (fs.length = n)) (h' : Hid (ARow w b cs)) (hm : Hid (cs.length = n)) (hs : Hid (Sh.sharedB fs cs = true)) (hk : Hid (Pf.inB k 0 ((n : Int) - 1) = false)) (h8 : n ≤ 8) :
    Calls Try.prog 22 #[.slice a n c, .slice b n d, .int .i64 k] w fun e w' => e = .returned (fb (0, 0) false) ∧ Below w.heap.size w w' := by
  go_enter Try.func22, Try.ntmps22
  go_wp2_with (first
    | (go_at_call 45; refine (shared_eq (hide (h.out.alloc _)) hn (hide (h'.out.alloc _)) hm hs).mono ?_; rintro e w1 ⟨rfl, rfl⟩)
    | (go_at_call 44; refine (between_eq hk.out).mono ?_; rintro e w2 ⟨rfl, rfl⟩))
  exact bodyPost_ret (v := fb (0, 0) false) (by simp [results, Try.results22, go_sem, fb]) rfl ⟨rfl, (Below.refl _ _).alloc (Nat.le_refl _) _⟩
set_option maxRecDepth 100000 in
set_option maxHeartbeats 4000000 in
theorem go_yes {a b : Option Addr} {n c d k : Nat} {fs cs : List Int} {w : World} (h : Hid (ARow w a fs)) (hn : Hid (fs.length = n)) (h' : Hid (ARow w b cs)) (hm : Hid (cs.length = n)) (hs : Hid (Sh.sharedB fs cs = true)) (hk : k < n) (h8 : n ≤ 8) :
    Calls Try.prog 22 #[.slice a n c, .slice b n d, .int .i64 (k : Int)] w fun e w' => e = .returned (fb (Sh.gain (fs.getD k 0) (cs.getD k 0)) true) ∧ Below w.heap.size w w' := by
  have HK : Hid (Pf.inB (k : Int) 0 ((n : Int) - 1) = true) := hide (Pf.inB_of (by omega) (by omega))
  obtain ⟨ba, oa, bb, ob, rfl, rfl, hba, hbb, r1, r2, ⟨f0, f1⟩, ⟨c0, c1⟩⟩ := at_both h hn h' hs hk
  have k0 : (0 : Int) ≤ (k : Int) := by omega
  have k1 : (k : Int) < (n : Int) := by omega
  generalize fs.getD k 0 = x at *
  generalize cs.getD k 0 = y at *
  have hb0 : Below w.heap.size w (w.alloc (.cells #[.int .i64 0, .int .i64 0] 35)) := (Below.refl _ _).alloc (Nat.le_refl _) _
  have q1 := (hb0.cell (p := ⟨ba, oa + k, none⟩) hba).trans r1
  have q2 := (hb0.cell (p := ⟨bb, ob + k, none⟩) hbb).trans r2
  have hcall := hide (fun w' => gainAt_any (w := w') f0 f1 c0 c1)
  generalize Sh.gain x y = p at *
  obtain ⟨p1, p2⟩ := p
  rw [fv_eq] at hcall
  go_enter Try.func22, Try.ntmps22
  go_wp2_with (first
    | (go_at_call 45; refine (shared_eq (hide (h.out.alloc _)) hn (hide (h'.out.alloc _)) hm hs).mono ?_; rintro e w1 ⟨rfl, rfl⟩)
    | (go_at_call 44; refine (between_eq HK.out).mono ?_; rintro e w2 ⟨rfl, rfl⟩))
  go_region_held3 (fun w' => w'.cell? ⟨ba, oa + k, none⟩ = some (.int .i64 x) ∧ w'.cell? ⟨bb, ob + k, none⟩ = some (.int .i64 y) ∧ Below w.heap.size w w' ∧ w.heap.size < w'.heap.size)
    (first | exact ⟨q1, q2, hb0.drew, by simp⟩ | assumption | exact two_call hba hbb ‹_› (by assumption) | exact two_set hba hbb (two_set hba hbb ‹_›) | fail)
    (first | (go_at_call 54; refine (hcall.out _).mono ?_; rintro e w3 ⟨rfl, hb3⟩; obtain ⟨c4, c5, g4, g5⟩ := res_new hb3) | fail)
  obtain ⟨_, _, hB, _⟩ := ‹_ ∧ _ ∧ _ ∧ _›
  go_wp2_with fail
  exact bodyPost_ret (v := fb (p1, p2) true) (by simp [results, Try.results22, go_sem, c4, c5, fb]) rfl ⟨rfl, hB⟩
theorem go_any {a b : Option Addr} {n m c d : Nat} {k : Int} {fs cs : List Int} {w : World} (h : Hid (ARow w a fs)) (hn : Hid (fs.length = n)) (h' : Hid (ARow w b cs)) (hm : Hid (cs.length = m)) :
    Calls Try.prog 22 #[.slice a n c, .slice b m d, .int .i64 k] w fun e w' => e = .returned (fb (gainF fs cs k) (gainB fs cs k)) ∧ Below w.heap.size w w' := by
  unfold gainF
  cases hs : Sh.sharedB fs cs
  · have e : gainB fs cs k = false := by unfold gainB; rw [hs]; rfl
    rw [e]; exact go_bad h hn h' hm (hide hs)
  · obtain rfl := shared_len hn hm hs
    have h8 : m ≤ 8 := by have := Sh.flowB_yes (Sh.sharedB_yes hs).1; have := hn.out; omega
    have e : gainB fs cs k = Pf.inB k 0 ((m : Int) - 1) := by unfold gainB; rw [hs, hn.out]; rfl
    rw [e]
    cases hk : Pf.inB k 0 ((m : Int) - 1)
    · exact go_out h hn h' hm (hide hs) (hide hk) h8
    · have := Pf.inB_yes hk
      obtain ⟨k', rfl⟩ := Int.eq_ofNat_of_zero_le this.1
      exact go_yes h hn h' hm (hide hs) (by omega) h8
set_option maxRecDepth 100000 in
set_option maxHeartbeats 1000000 in
theorem sgo_bad {a b : Option Addr} {n m c d : Nat} {k : Int} {fs cs : List Int} {w : World} (h : Hid (ARow w a fs)) (hn : Hid (fs.length = n)) (h' : Hid (ARow w b cs)) (hm : Hid (cs.length = m)) (hs : Hid (Sh.sharedB fs cs = false)) :
    Calls Try.prog 24 #[.slice a n c, .slice b m d, .int .i64 k] w fun e w' => e = .returned (fb (0, 0) false) ∧ Below w.heap.size w w' := by
  go_enter Try.func24, Try.ntmps24
  go_wp2_with (go_at_call 57; refine (sshared_eq (hide (h.out.alloc _)) hn (hide (h'.out.alloc _)) hm hs).mono ?_; rintro e w1 ⟨rfl, rfl⟩)
  exact bodyPost_ret (v := fb (0, 0) false) (by simp [results, Try.results24, go_sem, fb]) rfl ⟨rfl, (Below.refl _ _).alloc (Nat.le_refl _) _⟩
set_option maxRecDepth 100000 in
set_option maxHeartbeats 1000000 in
theorem sgo_out {a b : Option Addr} {n c d : Nat} {k : Int} {fs cs : List Int} {w : World} (h : Hid (ARow w a fs)) (hn : Hid (fs.length = n)) (h' : Hid (ARow w b cs)) (hm : Hid (cs.length = n)) (hs : Hid (Sh.sharedB fs cs = true)) (hk : k < 0 ∨ (n : Int) - 1 < k) :
    Calls Try.prog 24 #[.slice a n c, .slice b n d, .int .i64 k] w fun e w' => e = .returned (fb (0, 0) false) ∧ Below w.heap.size w w' := by
  by_cases h0 : k < 0
  · clear hk
    go_enter Try.func24, Try.ntmps24
    go_wp2_with (go_at_call 57; refine (sshared_eq (hide (h.out.alloc _)) hn (hide (h'.out.alloc _)) hm hs).mono ?_; rintro e w1 ⟨rfl, rfl⟩)
    exact bodyPost_ret (v := fb (0, 0) false) (by simp [results, Try.results24, go_sem, fb]) rfl ⟨rfl, (Below.refl _ _).alloc (Nat.le_refl _) _⟩
  · have h1 : (n : Int) ≤ k := by omega
    clear hk
    go_enter Try.func24, Try.ntmps24
    go_wp2_with (go_at_call 57; refine (sshared_eq (hide (h.out.alloc _)) hn (hide (h'.out.alloc _)) hm hs).mono ?_; rintro e w1 ⟨rfl, rfl⟩)
    exact bodyPost_ret (v := fb (0, 0) false) (by simp [results, Try.results24, go_sem, fb]) rfl ⟨rfl, (Below.refl _ _).alloc (Nat.le_refl _) _⟩
set_option maxRecDepth 100000 in
set_option maxHeartbeats 1000000 in
theorem sgo_yes {a b : Option Addr} {n c d k : Nat} {fs cs : List Int} {w : World} (h : Hid (ARow w a fs)) (hn : Hid (fs.length = n)) (h' : Hid (ARow w b cs)) (hm : Hid (cs.length = n)) (hs : Hid (Sh.sharedB fs cs = true)) (hk : k < n) :
    Calls Try.prog 24 #[.slice a n c, .slice b n d, .int .i64 (k : Int)] w fun e w' => e = .returned (fb (Sh.gain (fs.getD k 0) (cs.getD k 0)) true) ∧ Below w.heap.size w w' := by
  have k0 : ¬ (k : Int) < 0 := by omega
  have k1 : ¬ (n : Int) ≤ (k : Int) := by omega
  have hcall := hide (fun o => sgain_any (c := c) (d := d) (hide (h.out.alloc o)) hn (hide (h'.out.alloc o)) hs hk)
  generalize Sh.gain (fs.getD k 0) (cs.getD k 0) = p at *
  obtain ⟨p1, p2⟩ := p
  go_enter Try.func24, Try.ntmps24
  go_wp2_with (first
    | (go_at_call 57; refine (sshared_eq (hide (h.out.alloc _)) hn (hide (h'.out.alloc _)) hm hs).mono ?_; rintro e w1 ⟨rfl, rfl⟩)
    | (go_at_call 60; refine (hcall.out _).mono ?_; rintro e w3 ⟨rfl, hb3⟩; obtain ⟨c4, c5, g4, g5⟩ := res_new' hb3))
  exact bodyPost_ret (v := fb (p1, p2) true) (by simp [results, Try.results24, go_sem, c4, c5, fb]) rfl ⟨rfl, below_set2 hb3 (Nat.le_refl _) (Nat.le_refl _)⟩
theorem sgo_any {a b : Option Addr} {n m c d : Nat} {k : Int} {fs cs : List Int} {w : World} (h : Hid (ARow w a fs)) (hn : Hid (fs.length = n)) (h' : Hid (ARow w b cs)) (hm : Hid (cs.length = m)) :
    Calls Try.prog 24 #[.slice a n c, .slice b m d, .int .i64 k] w fun e w' => e = .returned (fb (gainF fs cs k) (gainB fs cs k)) ∧ Below w.heap.size w w' := by
  unfold gainF
  cases hs : Sh.sharedB fs cs
  · have e : gainB fs cs k = false := by unfold gainB; rw [hs]; rfl
    rw [e]; exact sgo_bad h hn h' hm (hide hs)
  · obtain rfl := shared_len hn hm hs
    have e : gainB fs cs k = Pf.inB k 0 ((m : Int) - 1) := by unfold gainB; rw [hs, hn.out]; rfl
    rw [e]
    cases hk : Pf.inB k 0 ((m : Int) - 1)
    · exact sgo_out h hn h' hm (hide hs) (Pf.inB_no hk)
    · have := Pf.inB_yes hk
      obtain ⟨k', rfl⟩ := Int.eq_ofNat_of_zero_le this.1
      exact sgo_yes h hn h' hm (hide hs) (by omega)

def costB (fs cs : List Int) : Bool := Sh.sharedB fs cs && Fr.sumB (Sh.each Sh.cost fs cs)
def costF (fs cs : List Int) : Int × Int := if Sh.sharedB fs cs = true then (Fr.sumN (Sh.each Sh.cost fs cs), Fr.sumD (Sh.each Sh.cost fs cs)) else (0, 0)
theorem sumF_eqn {b n cap : Nat} {xs : List (Int × Int)} {w : World} (hr : Hid (RowAt w b 0 xs)) (hn : Hid (xs.length = n)) (hb : b < w.heap.size) :
    Calls Try.prog 46 #[.slice (some ⟨b, 0, none⟩) n cap] w fun e w' => e = .returned (fb (Fr.sumN xs, Fr.sumD xs) (Fr.sumB xs)) ∧ Below w.heap.size w w' := by
  have := hn.out
  subst this
  exact sum_any b 0 cap xs w hr.out hb
set_option maxRecDepth 100000 in
set_option maxHeartbeats 1000000 in
theorem co_bad {a b : Option Addr} {n m c d : Nat} {fs cs : List Int} {w : World} (h : Hid (ARow w a fs)) (hn : Hid (fs.length = n)) (h' : Hid (ARow w b cs)) (hm : Hid (cs.length = m)) (hs : Hid (Sh.sharedB fs cs = false)) :
    Calls Try.prog 14 #[.slice a n c, .slice b m d] w fun e w' => e = .returned (fb (0, 0) false) ∧ Below w.heap.size w w' := by
  go_enter Try.func14, Try.ntmps14
  go_wp2_with (go_at_call 45; refine (shared_eq (hide (h.out.alloc _)) hn (hide (h'.out.alloc _)) hm hs).mono ?_; rintro e w1 ⟨rfl, rfl⟩)
  exact bodyPost_ret (v := fb (0, 0) false) (by simp [results, Try.results14, go_sem, fb]) rfl ⟨rfl, (Below.refl _ _).alloc (Nat.le_refl _) _⟩
set_option maxRecDepth 100000 in
set_option maxHeartbeats 2000000 in
theorem co_yes {a b : Option Addr} {n c d : Nat} {fs cs : List Int} {w : World} (h : Hid (ARow w a fs)) (hn : Hid (fs.length = n)) (h' : Hid (ARow w b cs)) (hm : Hid (cs.length = n)) (hs : Hid (Sh.sharedB fs cs = true)) :
    Calls Try.prog 14 #[.slice a n c, .slice b n d] w fun e w' => e = .returned (fb (Fr.sumN (Sh.each Sh.cost fs cs), Fr.sumD (Sh.each Sh.cost fs cs)) (Fr.sumB (Sh.each Sh.cost fs cs))) ∧ Below w.heap.size w w' := by
  have e1 : ∀ args w, (callFunc 48 args).run Try.prog w = .ok (.enter 48 args) w := enters_of Try.func48 (by kernel_rfl) rfl
  have n1 : 0 < n := by have := Sh.flowB_yes (Sh.sharedB_yes hs.out).1; have := hn.out; omega
  have HL : Hid ((Sh.each Sh.cost fs cs).length = n) := hide (by rw [Sh.each_len]; exact hn.out)
  have hcall := hide (fun o => eachK_any (w := w.alloc o) (c := c) (d := d) Sh.cost e1 (hide fun f c w f0 f1 c0 c1 => costAt_any f0 f1 c0 c1) (hide (h.out.alloc o)) hn (hide (h'.out.alloc o)) hs)
  generalize Sh.each Sh.cost fs cs = xs at *
  have hsum := hide (fun b cap (w' : World) hr hb => sumF_eqn (b := b) (cap := cap) (w := w') (xs := xs) hr HL hb)
  generalize Fr.sumN xs = p1 at *
  generalize Fr.sumD xs = p2 at *
  generalize Fr.sumB xs = pb at *
  rw [fb_eq] at hsum
  go_enter Try.func14, Try.ntmps14
  go_wp2_with (first
    | (go_at_call 45; refine (shared_eq (hide (h.out.alloc _)) hn (hide (h'.out.alloc _)) hm hs).mono ?_; rintro e w1 ⟨rfl, rfl⟩)
    | (go_at_call 47; refine (hcall.out _).mono ?_; rintro e w1 ⟨v, rfl, hb1, own1⟩; obtain ⟨g, cap, rfl, g0, g1, row1⟩ := (frow_owns HL.out own1).resolve_left (fun h => by have := h.2; omega); have R1 := hide row1; clear row1 own1)
    | (go_at_call 46; refine (hsum.out _ _ _ R1 g1).mono ?_; rintro e w2 ⟨rfl, hb2⟩; have hb3 := hb1.trans (hb2.mono hb1.size); obtain ⟨c4, c5, g4, g5⟩ := res_new' hb3))
  exact bodyPost_ret (v := fb (p1, p2) pb) (by simp [results, Try.results14, go_sem, c4, c5, fb]) rfl ⟨rfl, below_set2 hb3 (Nat.le_refl _) (Nat.le_refl _)⟩
theorem co_any {a b : Option Addr} {n m c d : Nat} {fs cs : List Int} {w : World} (h : Hid (ARow w a fs)) (hn : Hid (fs.length = n)) (h' : Hid (ARow w b cs)) (hm : Hid (cs.length = m)) :
    Calls Try.prog 14 #[.slice a n c, .slice b m d] w fun e w' => e = .returned (fb (costF fs cs) (costB fs cs)) ∧ Below w.heap.size w w' := by
  unfold costF costB
  cases hs : Sh.sharedB fs cs
  · exact co_bad h hn h' hm (hide hs)
  · obtain rfl := shared_len hn hm hs
    exact co_yes h hn h' hm (hide hs)
theorem ssumF_eqn {b n cap : Nat} {xs : List (Int × Int)} {w : World} (hr : Hid (RowAt w b 0 xs)) (hn : Hid (xs.length = n)) (hb : b < w.heap.size) :
    Calls Try.prog 61 #[.slice (some ⟨b, 0, none⟩) n cap] w fun e w' => e = .returned (fb (Fr.sumN xs, Fr.sumD xs) (Fr.sumB xs)) ∧ Below w.heap.size w w' := by
  have := hn.out
  subst this
  exact ssum_any b 0 cap xs w hr.out hb
set_option maxRecDepth 100000 in
set_option maxHeartbeats 1000000 in
theorem sco_bad {a b : Option Addr} {n m c d : Nat} {fs cs : List Int} {w : World} (h : Hid (ARow w a fs)) (hn : Hid (fs.length = n)) (h' : Hid (ARow w b cs)) (hm : Hid (cs.length = m)) (hs : Hid (Sh.sharedB fs cs = false)) :
    Calls Try.prog 19 #[.slice a n c, .slice b m d] w fun e w' => e = .returned (fb (0, 0) false) ∧ Below w.heap.size w w' := by
  go_enter Try.func19, Try.ntmps19
  go_wp2_with (go_at_call 57; refine (sshared_eq (hide (h.out.alloc _)) hn (hide (h'.out.alloc _)) hm hs).mono ?_; rintro e w1 ⟨rfl, rfl⟩)
  exact bodyPost_ret (v := fb (0, 0) false) (by simp [results, Try.results19, go_sem, fb]) rfl ⟨rfl, (Below.refl _ _).alloc (Nat.le_refl _) _⟩
set_option maxRecDepth 100000 in
set_option maxHeartbeats 4000000 in
theorem sco_yes {a b : Option Addr} {n c d : Nat} {fs cs : List Int} {w : World} (h : Hid (ARow w a fs)) (hn : Hid (fs.length = n)) (h' : Hid (ARow w b cs)) (hm : Hid (cs.length = n)) (hs : Hid (Sh.sharedB fs cs = true)) :
    Calls Try.prog 19 #[.slice a n c, .slice b n d] w fun e w' => e = .returned (fb (Fr.sumN (Sh.each Sh.cost fs cs), Fr.sumD (Sh.each Sh.cost fs cs)) (Fr.sumB (Sh.each Sh.cost fs cs))) ∧ Below w.heap.size w w' := by
  obtain ⟨i0, hi, hz0, hz1, hz2⟩ := info_parts infF
  have n1 : 0 < n ∧ n ≤ 8 := by have := Sh.flowB_yes (Sh.sharedB_yes hs.out).1; have := hn.out; omega
  obtain ⟨n0, n8⟩ := n1
  have HL : Hid ((Sh.each Sh.cost fs cs).length = n) := hide (by rw [Sh.each_len]; exact hn.out)
  go_enter Try.func19, Try.ntmps19
  go_wp2_with (first
    | (go_at_call 57; refine (sshared_eq (hide (h.out.alloc _)) hn (hide (h'.out.alloc _)) hm hs).mono ?_; rintro e w1 ⟨rfl, rfl⟩))
  go_loopw [6, 7, 8, 16] (fun v _ _ s wr => ∃ k : Nat, s = .int .i64 k ∧ k ≤ n ∧ wr.ownsRow (w.heap.size + 1) 35 2 v k (fcells ((Sh.each Sh.cost fs cs).take k)) ∧ Hid (Below (w.heap.size + 1) (w.alloc (.cells #[.int .i64 0, .int .i64 0] 35)) wr)) (fun _ _ _ s _ => n - (intOf s).toNat)
  case atStart => exact ⟨0, rfl, Nat.zero_le _, World.ownsRow_nil _ _ _ _, hide (Below.refl _ _)⟩
  case round =>
    obtain ⟨k, rfl, hk, hown, HB⟩ := hrel
    have hBw : Below w.heap.size w wr := ((Below.refl _ _).alloc (Nat.le_refl _) _).trans (HB.out.mono (by omega))
    have hsz : w.heap.size + 1 ≤ wr.heap.size := by have := HB.out.size; simpa using this
    by_cases hlt : k < n
    · obtain ⟨ba, oa, rfl, r1⟩ := (h.out.below hBw).at (i := k) (by rw [hn.out]; exact hlt)
      obtain ⟨bb, ob, rfl, r2⟩ := (h'.out.below hBw).at (i := k) (by rw [hm.out]; exact hlt)
      have k0 : (0 : Int) ≤ (k : Int) := by omega
      have k1 : (k : Int) < (n : Int) := by omega
      obtain ⟨f0, f1⟩ := Sh.flowB_at (Sh.sharedB_yes hs.out).1 (i := k) (by rw [hn.out]; exact hlt)
      obtain ⟨c0, c1⟩ := Sh.sharedB_at hs.out (i := k) (by rw [hn.out]; exact hlt)
      have HT := hide (each_take Sh.cost fs cs k (by rw [hn.out]; exact hlt))
      generalize fs.getD k 0 = x at *
      generalize cs.getD k 0 = y at *
      have hcall : Hid (Calls Try.prog 58 #[.int .i64 x, .int .i64 y] wr fun e w' => e = .returned (fv (Sh.cost x y)) ∧ Below wr.heap.size wr w') := hide (make_pos x y wr (by omega) (by omega) (by omega) (by omega))
      generalize Sh.cost x y = p at *
      rw [fv_eq] at hcall
      have hown1 := hide hown
      clear hown
      go_wp2_with (first
        | (go_at_call 58; refine hcall.out.mono ?_; rintro e w1 ⟨rfl, hb1⟩; have own1 := own_below hown1.out hb1; have hs1 := hb1.size)
        | (at_builtin; refine wpList_append_own _ rfl _ _ 63 rfl (w.heap.size + 1) 35 i0 (.agg #[.int .i64 0, .int .i64 0]) 2 16 Try.underlying63 hi hz0 hz1 hz2 rfl (by decide) _ _ _ rfl (own1.alloc _) ⟨w1.heap.size, 0, none⟩ 1 1 [.int .i64 p.1, .int .i64 p.2] rfl rfl (new_frac _ _ _ rfl) (frac_cells _) (by unfold maxLen; omega) (by omega) (by simp; omega) ?_))
      intro v' w4 hown' hgrow _
      have hfin := own_grow own1 hgrow (Nat.le_refl _) (by omega)
      rw [← fcells_snoc, ← HT.out] at hown'
      go_wp2_with fail
      go_roundw
      case rel => exact ⟨k + 1, by go_num, by omega, hown', hide ((HB.out.trans (hb1.mono hsz)).trans hfin)⟩
      case measure => simp only [intOf]; omega
    · have hke : k = n := by omega
      subst hke
      have HE : Hid ((Sh.each Sh.cost fs cs).take k = Sh.each Sh.cost fs cs) := hide (by rw [List.take_of_length_le]; rw [HL.out]; exact Nat.le_refl _)
      rw [HE.out] at hown
      obtain ⟨g, cap, rfl, g0, g1, row1⟩ := (frow_owns HL.out hown).resolve_left (fun h => by have := h.2; omega)
      have hsum := hide (ssumF_eqn (cap := cap) (hide row1) HL g1)
      generalize hp1 : Fr.sumN (Sh.each Sh.cost fs cs) = p1 at hsum
      generalize hp2 : Fr.sumD (Sh.each Sh.cost fs cs) = p2 at hsum
      generalize hp3 : Fr.sumB (Sh.each Sh.cost fs cs) = pb at hsum
      have HP := hide (And.intro hp1 (And.intro hp2 hp3))
      rw [fb_eq] at hsum
      clear row1 hown hp1 hp2 hp3
      go_wp2_with (go_at_call 61; refine hsum.out.mono ?_; rintro e w2 ⟨rfl, hb2⟩; have hb3 := below_up HB.out hb2 hsz; obtain ⟨c4, c5, g4, g5⟩ := res_new' hb3)
      exact bodyPost_ret (v := fb (p1, p2) pb) (by simp [results, Try.results19, go_sem, c4, c5, fb]) rfl ⟨by rw [HP.out.1, HP.out.2.1, HP.out.2.2], below_set2 hb3 (Nat.le_refl _) (Nat.le_refl _)⟩
theorem sco_any {a b : Option Addr} {n m c d : Nat} {fs cs : List Int} {w : World} (h : Hid (ARow w a fs)) (hn : Hid (fs.length = n)) (h' : Hid (ARow w b cs)) (hm : Hid (cs.length = m)) :
    Calls Try.prog 19 #[.slice a n c, .slice b m d] w fun e w' => e = .returned (fb (costF fs cs) (costB fs cs)) ∧ Below w.heap.size w w' := by
  unfold costF costB
  cases hs : Sh.sharedB fs cs
  · exact sco_bad h hn h' hm (hide hs)
  · obtain rfl := shared_len hn hm hs
    exact sco_yes h hn h' hm (hide hs)
end Go.Proofs.Ytljccbnkibfimaa
