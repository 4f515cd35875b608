/-
  ClassesOf and RankBy in one word each, the program's and the model's.
-/
import Derived.Test.YtegonbilomcpkaaRe
namespace Go.Proofs.Ytegonbilomcpkaa
open Go.RowKit

def coL (ps fs : List Int) : List Int := if Pf.goodP ps fs then clsOf ps else []
def rbL (vs : List Int) : List Int := if goodV vs then nats (Rk.rank vs) else []
theorem nil_own (w : World) (b : Nat) : w.ownsRow b 3 1 (.slice none 0 0) ([] : List Int).length (ints []) := ⟨rfl, Or.inl ⟨rfl, rfl⟩⟩
theorem co_one {a b : Option Addr} {n m c d : Nat} {ps fs : List Int} {w : World} (hn : ps.length = n) (hm : fs.length = m) (ha : ARow w a ps) (hb : ARow w b fs) :
    Calls Try.prog 22 #[.agg #[.slice a n c, .slice b m d]] w fun e w' => ∃ v, e = .returned (.tuple #[v, .bool (Pf.goodP ps fs)]) ∧ Below w.heap.size w w' ∧ w'.ownsRow w.heap.size 3 1 v (coL ps fs).length (ints (coL ps fs)) := by
  cases hg : Pf.goodP ps fs with
  | false => exact (co_bad hn hm ha hb hg).mono fun e w' ⟨he, hB⟩ => ⟨_, he, hB, by rw [show coL ps fs = [] by simp [coL, hg]]; exact nil_own _ _⟩
  | true => exact (co_good hn hm ha hb hg).mono fun e w' ⟨g, he, hB, o⟩ => ⟨_, he, hB, by rw [show coL ps fs = clsOf ps by simp [coL, hg], clsOf_len, hn]; exact o⟩
theorem sco_one {a b : Option Addr} {n m c d : Nat} {ps fs : List Int} {w : World} (hn : ps.length = n) (hm : fs.length = m) (ha : ARow w a ps) (hb : ARow w b fs) :
    Calls Try.prog 23 #[.agg #[.slice a n c, .slice b m d]] w fun e w' => ∃ v, e = .returned (.tuple #[v, .bool (Pf.goodP ps fs)]) ∧ Below w.heap.size w w' ∧ w'.ownsRow w.heap.size 3 1 v (coL ps fs).length (ints (coL ps fs)) := by
  cases hg : Pf.goodP ps fs with
  | false => exact (sco_bad hn hm ha hb hg).mono fun e w' ⟨he, hB⟩ => ⟨_, he, hB, by rw [show coL ps fs = [] by simp [coL, hg]]; exact nil_own _ _⟩
  | true => exact (sco_good hn hm ha hb hg).mono fun e w' ⟨g, he, hB, o⟩ => ⟨_, he, hB, by rw [show coL ps fs = clsOf ps by simp [coL, hg], clsOf_len, hn]; exact o⟩
theorem rb_one {a : Option Addr} {n c : Nat} {vs : List Int} {w : World} (hv : vs.length = n) (ha : ARow w a vs) :
    Calls Try.prog 27 #[.slice a n c] w fun e w' => ∃ v, e = .returned (.tuple #[v, .bool (goodV vs)]) ∧ Below w.heap.size w w' ∧ w'.ownsRow w.heap.size 3 1 v (rbL vs).length (ints (rbL vs)) := by
  cases hg : goodV vs with
  | false => exact (rb_no hv ha hg).mono fun e w' ⟨he, hB⟩ => ⟨_, he, hB, by rw [show rbL vs = [] by simp [rbL, hg]]; exact nil_own _ _⟩
  | true => exact (rb_yes hv ha hg).mono fun e w' ⟨g, he, hB, o⟩ => ⟨_, he, hB, by rw [show rbL vs = nats (Rk.rank vs) by simp [rbL, hg], nats_len, Rk.rank_len, hv]; exact o⟩
theorem srb_one {a : Option Addr} {n c : Nat} {vs : List Int} {w : World} (hv : vs.length = n) (ha : ARow w a vs) :
    Calls Try.prog 28 #[.slice a n c] w fun e w' => ∃ v, e = .returned (.tuple #[v, .bool (goodV vs)]) ∧ Below w.heap.size w w' ∧ w'.ownsRow w.heap.size 3 1 v (rbL vs).length (ints (rbL vs)) := by
  cases hg : goodV vs with
  | false => exact (srb_no hv ha hg).mono fun e w' ⟨he, hB⟩ => ⟨_, he, hB, by rw [show rbL vs = [] by simp [rbL, hg]]; exact nil_own _ _⟩
  | true => exact (srb_yes hv ha hg).mono fun e w' ⟨v, he, hB, o⟩ => ⟨_, he, hB, by rw [show rbL vs = nats (Rk.rank vs) by simp [rbL, hg], nats_len, Rk.rank_len, hv]; exact o⟩
theorem mk_cross (n d : Int) (hd : 0 < d) : Fr.mkN n d * d = n * Fr.mkD n d ∧ 0 < Fr.mkD n d := by
  have hn : ¬ d < 0 := by omega
  unfold Fr.mkN Fr.mkD
  rw [if_neg hn, if_neg hn]
  obtain ⟨k, hk⟩ := Fr.g_dvdl n d
  obtain ⟨l, hl⟩ := Fr.g_dvdr n d
  have hp := Fr.g_pos n d (by omega)
  generalize Fr.g n d = G at *
  have e1 : n.tdiv G = k := by rw [hk]; exact Int.mul_tdiv_cancel_left k (by omega)
  have e2 : d.tdiv G = l := by rw [hl]; exact Int.mul_tdiv_cancel_left l (by omega)
  rw [e1, e2]
  refine ⟨by rw [hk, hl, ← Int.mul_assoc, Int.mul_comm k G], ?_⟩
  rcases Int.lt_or_le 0 l with h | h
  · exact h
  · have := Int.mul_nonpos_of_nonneg_of_nonpos (show 0 ≤ G by omega) h
    omega
/-- The first few have no smaller share than any few, as the law of classes reckons it. -/
theorem share_law {ps : List Int} {some_ g : Int} (hs : 0 < ps.sum) (h : some_ ≤ shS ps g) : ¬ shN ps g * ps.sum < some_ * shD ps g := by
  have h0 : ps.sum ≠ 0 := by omega
  unfold shN shD
  rw [if_neg h0, if_neg h0]
  obtain ⟨h1, h2⟩ := mk_cross (shS ps g) ps.sum hs
  rw [h1]
  have := Int.mul_le_mul_of_nonneg_right h (Int.le_of_lt h2)
  omega
end Go.Proofs.Ytegonbilomcpkaa
