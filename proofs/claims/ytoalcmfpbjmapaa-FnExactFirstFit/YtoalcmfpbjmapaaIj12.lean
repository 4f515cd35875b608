/-
  What canFit of the program answers: the search, rooms as they were behind it.
-/
import Derived.Test.YtoalcmfpbjmapaaIb12
import Derived.Test.YtoalcmfpbjmapaaIg12
import Derived.Test.YtoalcmfpbjmapaaIh12
namespace Go.Proofs.Ytoalcmfpbjmapaa
open Go.RowKit

theorem grt {a b c : World} {r : Option Nat} (h : a.grownBy b r) (k : b.grownBy c r) : a.grownBy c r :=
  ⟨k.os.trans h.os, k.tape.trans h.tape, k.output.trans h.output, Nat.le_trans h.size k.size, fun x hx hne => (k.block x (Nat.lt_of_lt_of_le hx h.size) hne).trans (h.block x hx hne)⟩
theorem grb {a b c : World} {r : Option Nat} (h : a.grownBy b r) (k : Below a.heap.size b c) : a.grownBy c r :=
  ⟨k.os.trans h.os, k.tape.trans h.tape, k.output.trans h.output, Nat.le_trans h.size k.size, fun x hx hne => (k.block x hx).trans (h.block x hx hne)⟩
theorem SI.grown {w w' : World} {P B G : Nat} {xs : List Int} (h : SI w P B xs) (hg : w.grownBy w' (some G)) (hG : G < P) : SI w' P B xs := by
  obtain ⟨h1, h2, v, c0, f0, own⟩ := h
  have hp : w'.heap[P]? = w.heap[P]? := hg.block P (by omega) (by simp; omega)
  refine ⟨h1, Nat.le_trans h2 hg.size, v, (World.cell?_of_block (a := ⟨P, 0, none⟩) hp).trans c0, (World.frozen?_of_block (a := ⟨P, 0, none⟩) hp).trans f0, own_keep own fun g hv hl => ?_⟩
  have := (own.lt g hv).1
  exact hg.block g hl (by simp; omega)
/-- Items in a block other than B. -/
def FRX (B : Nat) (w : World) (a : Option Addr) (L : List (Int × Int)) : Prop :=
  L = [] ∨ ∃ b o, a = some ⟨b, o, none⟩ ∧ b < w.heap.size ∧ b ≠ B ∧ ∀ i, i < L.length → w.cell? ⟨b, o + i * 2, none⟩ = some (.int .i64 (L.getD i (0, 0)).1) ∧ w.cell? ⟨b, o + i * 2 + 1, none⟩ = some (.int .i64 (L.getD i (0, 0)).2)
theorem FRX.grown {B : Nat} {w w' : World} {a : Option Addr} {L : List (Int × Int)} (h : FRX B w a L) (hg : w.grownBy w' (some B)) : FRX B w' a L := by
  rcases h with h | ⟨b, o, rfl, hb, hne, hc⟩
  · exact Or.inl h
  · have hk : w'.heap[b]? = w.heap[b]? := hg.block b hb (by simp; exact hne)
    exact Or.inr ⟨b, o, rfl, Nat.lt_of_lt_of_le hb hg.size, hne, fun i hi => ⟨(World.cell?_of_block (a := ⟨b, o + i * 2, none⟩) hk).trans (hc i hi).1, (World.cell?_of_block (a := ⟨b, o + i * 2 + 1, none⟩) hk).trans (hc i hi).2⟩⟩
theorem FRX.head {B : Nat} {w : World} {a : Option Addr} {x : Int × Int} {t : List (Int × Int)} (h : FRX B w a (x :: t)) : ∃ b o, a = some ⟨b, o, none⟩ ∧ w.cell? ⟨b, o + 1, none⟩ = some (.int .i64 x.2) ∧ FRX B w (some ⟨b, o + 2, none⟩) t := by
  rcases h with h | ⟨b, o, rfl, hb, hne, hc⟩
  · cases h
  · refine ⟨b, o, rfl, ?_, ?_⟩
    · have := (hc 0 (by simp)).2
      simpa using this
    · cases t with
      | nil => exact Or.inl rfl
      | cons y t =>
        refine Or.inr ⟨b, o + 2, rfl, hb, hne, fun i hi => ?_⟩
        have := hc (i + 1) (by simpa using hi)
        rw [show o + (i + 1) * 2 = o + 2 + i * 2 by omega, List.getD_cons_succ] at this
        exact this
theorem FRow.far {w : World} {a : Option Addr} {L : List (Int × Int)} {B : Nat} (h : FRow w a L) (hB : w.heap.size ≤ B) : FRX B w a L := by
  rcases h with h | ⟨b, o, rfl, hb, hc⟩
  · exact Or.inl h
  · exact Or.inr ⟨b, o, rfl, hb, by omega, hc⟩
theorem FRX.below {B : Nat} {w w' : World} {a : Option Addr} {L : List (Int × Int)} (h : FRX B w a L) (hg : Below w.heap.size w w') : FRX B w' a L := h.grown ⟨hg.os, hg.tape, hg.output, hg.size, fun b hb _ => hg.block b hb⟩
theorem si_new2 (w : World) (t : TypeId) : SI (w.alloc (.cells #[.slice none 0 0] t)) w.heap.size (w.heap.size + 1) [] := by
  refine ⟨by omega, by simp, .slice none 0 0, by simp, ?_, ⟨rfl, Or.inl ⟨rfl, rfl⟩⟩⟩
  simp [go_sem]
theorem set_back {rs : List Int} {k : Nat} {x : Int} : (rs.set k x).set k (rs.getD k 0) = rs := by
  rw [List.set_set]
  apply List.ext_getElem?
  intro j
  rw [List.getElem?_set]
  split
  · rename_i h; subst h
    split
    · rename_i h; simp [h]
    · rename_i h; rw [List.getElem?_eq_none (by omega)]
  · rfl
def CFP (B cB N base : Nat) (L : List (Int × Int)) : Prop := ∀ (a : Option Addr) (n c : Nat) (rs : List Int) (w : World), L.length = n → n ≤ 1000 → n ≤ c → (∀ x ∈ L, 1 ≤ x.2 ∧ x.2 ≤ 20) → rs.length = N → N ≤ 900 → It.PosL rs → (∀ b, b < N → rs.getD b 0 ≤ 20) → FRX B w a L → w.ownsRow base 3 1 (.slice (some ⟨B, 0, none⟩) N cB) N (ints rs) →
    Calls Try.prog 40 #[.slice a n c, .slice (some ⟨B, 0, none⟩) N cB] w fun e w' => e = .returned (.bool (It.canB (L.map Prod.snd) rs)) ∧ w'.ownsRow base 3 1 (.slice (some ⟨B, 0, none⟩) N cB) N (ints rs) ∧ w.grownBy w' (some B)
set_option maxRecDepth 100000 in
set_option maxHeartbeats 4000000 in
theorem cf12 (B cB N base : Nat) (L : List (Int × Int)) : CFP B cB N base L := by
  induction L with
  | nil =>
    intro a n c rs w hl _ _ _ _ _ _ _ _ hown
    obtain rfl : n = 0 := hl.symm
    have HO := hide hown
    clear hown hl
    go_enter Try.func40, Try.ntmps40
    go_wp2_with fail
    go_ret
    exact ⟨rfl, HO.out, World.grownBy.refl _ _⟩
  | cons x t ih =>
    have IH := hide ih
    clear ih
    intro a n c rs w hl hn hnc hb hN hN9 hp hbd hrow hown
    have HSZ := hide (fun y (hy : y ∈ t) => hb y (by simp [hy]))
    have HPT : Hid (∀ y ∈ t.map Prod.snd, 0 ≤ y) := hide fun y hy => by
      obtain ⟨z, hz, rfl⟩ := List.mem_map.1 hy
      have := hb z (by simp [hz]); omega
    obtain ⟨s1, s2⟩ := hb x (by simp)
    obtain ⟨b, o, rfl, q0, htail⟩ := hrow.head
    have hBl : B < w.heap.size := (hown.lt B rfl).2
    have HT := hide htail
    obtain ⟨R, hR⟩ : ∃ R, It.canB ((x :: t).map Prod.snd) rs = R := ⟨_, rfl⟩
    rw [hR]
    have HR : Hid (It.canB (x.2 :: t.map Prod.snd) rs = R) := hide hR
    have HN := hide hN
    have HP := hide hp
    have HBD := hide hbd
    have HO := hide hown
    obtain ⟨P, hP⟩ : ∃ P, w.heap.size = P := ⟨_, rfl⟩
    have HS0 : Hid (SI (w.alloc (.cells #[.slice none 0 0] 61)) P (P + 1) []) := hide (by rw [← hP]; exact si_new2 w _)
    have HB0 := hide (below_alloc w (.cells #[.slice none 0 0] 61))
    have HPP := hide hP
    have hn1 : 1 ≤ n := by rw [← hl]; simp
    have HLT : Hid (t.length = n - 1) := hide (by rw [← hl]; simp)
    have c1 : (1 : Int) ≤ (n : Int) := by omega
    have c0 : ((n : Int) == 0) = false := by simp; omega
    have c2 : (0 : Int) < (n : Int) := by omega
    rw [hP] at hBl
    generalize x.2 = s at *
    clear hl hb hN hp hbd hrow hown htail hR hP
    by_cases hc1 : c = 1
    · subst hc1
      have HT0 : Hid (FRX B w (some ⟨b, o, none⟩) t) := hide (Or.inl (List.length_eq_zero_iff.1 (by rw [HLT.out]; omega)))
      go_enter Try.func40, Try.ntmps40
      go_wp2_with fail
      rw [HPP.out]
      go_loopw [4, 7, 8, 9, 19] (fun s4 _ _ _ s19 wr => ∃ (k : Nat) (tr : List Int), s4 = .bool false ∧ s19 = .int .i64 k ∧ k ≤ N ∧ Hid (It.CS s (t.map Prod.snd) rs k tr) ∧ Hid (SI wr P (P + 1) tr) ∧ Hid (wr.ownsRow base 3 1 (.slice (some ⟨B, 0, none⟩) N cB) N (ints rs)) ∧ Hid (w.grownBy wr (some B))) (fun _ _ _ _ s19 _ => N - (intOf s19).toNat)
      case atStart => exact ⟨0, [], rfl, rfl, Nat.zero_le _, hide (It.cs_start _ _ _), HS0, hide (HO.out.alloc _), hide (World.grownBy_alloc _ _ _)⟩
      case round =>
        clear HS0 HB0 q0
        obtain ⟨k, tr, rfl, rfl, hk, HCS, HSI, HOW, HG⟩ := hrel
        by_cases hlt : k < N
        · have i0 : (0 : Int) ≤ (k : Int) := by omega
          have i1 : (k : Int) < (N : Int) := by omega
          have q1 : wr.cell? ⟨B, k, none⟩ = some (.int .i64 (rs.getD k 0)) := by rw [HOW.out.cellAt k (by omega), ints_get rs k (by rw [HN.out]; exact hlt)]
          have q2 := HOW.out.frozenAt k
          have hr0 := HP.out k (by rw [HN.out]; exact hlt)
          have hr1 := HBD.out k hlt
          have hfw := HCS.out.few
          by_cases hrs : rs.getD k 0 < s
          · have H1 := hide (HCS.out.small (by omega))
            generalize rs.getD k 0 = r at *
            clear HCS
            go_wp2_with fail
            go_roundw
            case rel => exact ⟨k + 1, tr, rfl, by go_num, by omega, H1, HSI, HOW, HG⟩
            case measure => simp only [intOf]; omega
          · have hsr : s ≤ rs.getD k 0 := by omega
            have HAD := hide (add_any (x := rs.getD k 0) HSI.out (by omega))
            cases hc : tr.contains (rs.getD k 0)
            · rw [hc] at HAD
              have HNX := hide fun h => HCS.out.next hsr h
              have HYS := hide fun h => It.CS.yes (s := s) (t := t.map Prod.snd) (R := rs) (k := k) (by rw [HN.out]; exact hlt) hsr h
              have HPS := hide (HP.out.set (i := k) (s := s) (by rw [HN.out]; exact hlt) hsr)
              have HSL : Hid ((rs.set k (rs.getD k 0 - s)).length = N) := hide (by rw [List.length_set]; exact HN.out)
              have HSB : Hid (∀ b, b < N → (rs.set k (rs.getD k 0 - s)).getD b 0 ≤ 20) := hide fun b hb => by
                rw [It.getD_set (by rw [HN.out]; exact hlt)]
                split
                · omega
                · exact HBD.out b hb
              have HBK : Hid (∀ y, (rs.set k y).set k (rs.getD k 0) = rs) := hide fun y => set_back
              generalize hrr : rs.getD k 0 = r at *
              have hws : IntKind.i64.wrap (r - s) = r - s := by rw [IntKind.wrap_i64]; omega
              clear HCS hc hrr
              go_wp2_with fail
              refine HAD.out.mono ?_
              rintro e w2 ⟨rfl, hs2, hb2⟩
              have hb2' : Below w.heap.size wr w2 := HPP.out.symm ▸ hb2
              have HG2 := hide (grb HG.out hb2')
              have own2 := own_keep HOW.out fun g hv hl => by
                obtain rfl : B = g := by simpa [Value.ownBlock] using hv
                exact hb2.block B hBl
              have q3 : w2.cell? ⟨B, k, none⟩ = some (.int .i64 r) := (hb2.cell (p := ⟨B, k, none⟩) hBl).trans q1
              have q4 : w2.frozen? ⟨B, k, none⟩ = false := own2.frozenAt k
              obtain ⟨st1, st2⟩ := own2.stored k (.int .i64 (r - s))
              rw [ints_set] at st1
              have HS2 := hide (SI.grown hs2 st2 hBl)
              have HG3 := hide (grt HG2.out st2)
              have HC := hide fun (a2 : Option Addr) (n2 c2 : Nat) (h3 : t.length = n2) (h2 : n2 ≤ c2) (h : FRX B w a2 t) => IH.out a2 n2 c2 _ _ h3 (by have := HLT.out; omega) h2 HSZ.out HSL.out hN9 HPS.out HSB.out (h.grown HG3.out) st1
              have HST := hide st2
              clear HAD HOW HG HSI hs2 hb2 hb2' own2 st1 st2 q1 q2 IH HG2
              go_wp2_with fail
              refine (HC.out _ _ _ (by have := HLT.out; omega) (by omega) HT0.out).mono ?_
              rintro e w4 ⟨rfl, own4, hg4⟩
              have q5 : w4.cell? ⟨B, k, none⟩ = some (.int .i64 (r - s)) := by rw [own4.cellAt k (by omega), ints_get _ k (by rw [HSL.out]; exact hlt), It.getD_set (by rw [HN.out]; exact hlt), if_pos rfl]
              have q6 := own4.frozenAt k
              obtain ⟨st5, st6⟩ := own4.stored k (.int .i64 r)
              rw [ints_set, HBK.out] at st5
              have HS5 := hide ((HS2.out.grown hg4 hBl).grown st6 hBl)
              have HG5 := hide (grt HG3.out (grt hg4 st6))
              have HO5 := hide st5
              clear own4 hg4 st5 st6 HS2 HG3 HC HST
              cases hcan : It.canB (t.map Prod.snd) (rs.set k (r - s))
              · have H1 := hide (HNX.out hcan)
                go_wp2_with fail
                go_roundw
                case rel => exact ⟨k + 1, tr ++ [r], rfl, by go_num, by omega, H1, HS5, HO5, HG5⟩
                case measure => simp only [intOf]; omega
              · have H1 := hide (HYS.out hcan)
                go_wp2_with fail
                go_ret
                exact ⟨ret_bool (by rw [← HR.out, H1.out]), HO5.out, HG5.out⟩
            · rw [hc] at HAD
              have H1 := hide (HCS.out.again HPT.out HP.out (by rw [HN.out]; exact hlt) hsr hc)
              generalize rs.getD k 0 = r at *
              clear HCS hc
              go_wp2_with fail
              refine HAD.out.mono ?_
              rintro e w2 ⟨rfl, hs2, hb2⟩
              have hb2' : Below w.heap.size wr w2 := HPP.out.symm ▸ hb2
              have HG2 := hide (grb HG.out hb2')
              have HS2 := hide hs2
              have HO2 := hide (own_keep HOW.out fun g hv hl => by
                obtain rfl : B = g := by simpa [Value.ownBlock] using hv
                exact hb2.block B hBl)
              clear HAD hs2 hb2 hb2' HOW HG HSI
              go_wp2_with fail
              go_roundw
              case rel => exact ⟨k + 1, tr, rfl, by go_num, by omega, H1, HS2, HO2, HG2⟩
              case measure => simp only [intOf]; omega
        · have hke : k = N := by omega
          subst hke
          have HE := hide (HCS.out.none (by rw [HN.out]; exact Nat.le_refl _))
          go_wp2_with fail
          go_ret
          exact ⟨ret_bool (by rw [← HR.out, HE.out]), HOW.out, HG.out⟩
    · have hc2 : ¬ c - 1 = 0 := by omega
      go_enter Try.func40, Try.ntmps40
      go_wp2_with fail
      rw [HPP.out]
      go_loopw [4, 7, 8, 9, 19] (fun s4 _ _ _ s19 wr => ∃ (k : Nat) (tr : List Int), s4 = .bool false ∧ s19 = .int .i64 k ∧ k ≤ N ∧ Hid (It.CS s (t.map Prod.snd) rs k tr) ∧ Hid (SI wr P (P + 1) tr) ∧ Hid (wr.ownsRow base 3 1 (.slice (some ⟨B, 0, none⟩) N cB) N (ints rs)) ∧ Hid (w.grownBy wr (some B))) (fun _ _ _ _ s19 _ => N - (intOf s19).toNat)
      case atStart => exact ⟨0, [], rfl, rfl, Nat.zero_le _, hide (It.cs_start _ _ _), HS0, hide (HO.out.alloc _), hide (World.grownBy_alloc _ _ _)⟩
      case round =>
        clear HS0 HB0 q0
        obtain ⟨k, tr, rfl, rfl, hk, HCS, HSI, HOW, HG⟩ := hrel
        by_cases hlt : k < N
        · have i0 : (0 : Int) ≤ (k : Int) := by omega
          have i1 : (k : Int) < (N : Int) := by omega
          have q1 : wr.cell? ⟨B, k, none⟩ = some (.int .i64 (rs.getD k 0)) := by rw [HOW.out.cellAt k (by omega), ints_get rs k (by rw [HN.out]; exact hlt)]
          have q2 := HOW.out.frozenAt k
          have hr0 := HP.out k (by rw [HN.out]; exact hlt)
          have hr1 := HBD.out k hlt
          have hfw := HCS.out.few
          by_cases hrs : rs.getD k 0 < s
          · have H1 := hide (HCS.out.small (by omega))
            generalize rs.getD k 0 = r at *
            clear HCS
            go_wp2_with fail
            go_roundw
            case rel => exact ⟨k + 1, tr, rfl, by go_num, by omega, H1, HSI, HOW, HG⟩
            case measure => simp only [intOf]; omega
          · have hsr : s ≤ rs.getD k 0 := by omega
            have HAD := hide (add_any (x := rs.getD k 0) HSI.out (by omega))
            cases hc : tr.contains (rs.getD k 0)
            · rw [hc] at HAD
              have HNX := hide fun h => HCS.out.next hsr h
              have HYS := hide fun h => It.CS.yes (s := s) (t := t.map Prod.snd) (R := rs) (k := k) (by rw [HN.out]; exact hlt) hsr h
              have HPS := hide (HP.out.set (i := k) (s := s) (by rw [HN.out]; exact hlt) hsr)
              have HSL : Hid ((rs.set k (rs.getD k 0 - s)).length = N) := hide (by rw [List.length_set]; exact HN.out)
              have HSB : Hid (∀ b, b < N → (rs.set k (rs.getD k 0 - s)).getD b 0 ≤ 20) := hide fun b hb => by
                rw [It.getD_set (by rw [HN.out]; exact hlt)]
                split
                · omega
                · exact HBD.out b hb
              have HBK : Hid (∀ y, (rs.set k y).set k (rs.getD k 0) = rs) := hide fun y => set_back
              generalize hrr : rs.getD k 0 = r at *
              have hws : IntKind.i64.wrap (r - s) = r - s := by rw [IntKind.wrap_i64]; omega
              clear HCS hc hrr
              go_wp2_with fail
              refine HAD.out.mono ?_
              rintro e w2 ⟨rfl, hs2, hb2⟩
              have hb2' : Below w.heap.size wr w2 := HPP.out.symm ▸ hb2
              have HG2 := hide (grb HG.out hb2')
              have own2 := own_keep HOW.out fun g hv hl => by
                obtain rfl : B = g := by simpa [Value.ownBlock] using hv
                exact hb2.block B hBl
              have q3 : w2.cell? ⟨B, k, none⟩ = some (.int .i64 r) := (hb2.cell (p := ⟨B, k, none⟩) hBl).trans q1
              have q4 : w2.frozen? ⟨B, k, none⟩ = false := own2.frozenAt k
              obtain ⟨st1, st2⟩ := own2.stored k (.int .i64 (r - s))
              rw [ints_set] at st1
              have HS2 := hide (SI.grown hs2 st2 hBl)
              have HG3 := hide (grt HG2.out st2)
              have HC := hide fun (a2 : Option Addr) (n2 c2 : Nat) (h3 : t.length = n2) (h2 : n2 ≤ c2) (h : FRX B w a2 t) => IH.out a2 n2 c2 _ _ h3 (by have := HLT.out; omega) h2 HSZ.out HSL.out hN9 HPS.out HSB.out (h.grown HG3.out) st1
              have HST := hide st2
              clear HAD HOW HG HSI hs2 hb2 hb2' own2 st1 st2 q1 q2 IH HG2
              go_wp2_with fail
              refine (HC.out _ _ _ HLT.out (by omega) HT.out).mono ?_
              rintro e w4 ⟨rfl, own4, hg4⟩
              have q5 : w4.cell? ⟨B, k, none⟩ = some (.int .i64 (r - s)) := by rw [own4.cellAt k (by omega), ints_get _ k (by rw [HSL.out]; exact hlt), It.getD_set (by rw [HN.out]; exact hlt), if_pos rfl]
              have q6 := own4.frozenAt k
              obtain ⟨st5, st6⟩ := own4.stored k (.int .i64 r)
              rw [ints_set, HBK.out] at st5
              have HS5 := hide ((HS2.out.grown hg4 hBl).grown st6 hBl)
              have HG5 := hide (grt HG3.out (grt hg4 st6))
              have HO5 := hide st5
              clear own4 hg4 st5 st6 HS2 HG3 HC HST
              cases hcan : It.canB (t.map Prod.snd) (rs.set k (r - s))
              · have H1 := hide (HNX.out hcan)
                go_wp2_with fail
                go_roundw
                case rel => exact ⟨k + 1, tr ++ [r], rfl, by go_num, by omega, H1, HS5, HO5, HG5⟩
                case measure => simp only [intOf]; omega
              · have H1 := hide (HYS.out hcan)
                go_wp2_with fail
                go_ret
                exact ⟨ret_bool (by rw [← HR.out, H1.out]), HO5.out, HG5.out⟩
            · rw [hc] at HAD
              have H1 := hide (HCS.out.again HPT.out HP.out (by rw [HN.out]; exact hlt) hsr hc)
              generalize rs.getD k 0 = r at *
              clear HCS hc
              go_wp2_with fail
              refine HAD.out.mono ?_
              rintro e w2 ⟨rfl, hs2, hb2⟩
              have hb2' : Below w.heap.size wr w2 := HPP.out.symm ▸ hb2
              have HG2 := hide (grb HG.out hb2')
              have HS2 := hide hs2
              have HO2 := hide (own_keep HOW.out fun g hv hl => by
                obtain rfl : B = g := by simpa [Value.ownBlock] using hv
                exact hb2.block B hBl)
              clear HAD hs2 hb2 hb2' HOW HG HSI
              go_wp2_with fail
              go_roundw
              case rel => exact ⟨k + 1, tr, rfl, by go_num, by omega, H1, HS2, HO2, HG2⟩
              case measure => simp only [intOf]; omega
        · have hke : k = N := by omega
          subst hke
          have HE := hide (HCS.out.none (by rw [HN.out]; exact Nat.le_refl _))
          go_wp2_with fail
          go_ret
          exact ⟨ret_bool (by rw [← HR.out, HE.out]), HOW.out, HG.out⟩
end Go.Proofs.Ytoalcmfpbjmapaa
