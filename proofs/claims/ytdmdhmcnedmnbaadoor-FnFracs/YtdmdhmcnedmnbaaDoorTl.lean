/-
  The law on fractions: what is left of its text behind so many statements.
-/
import Derived.Test.YtdmdhmcnedmnbaaDoorVa
namespace Go.Proofs.YtdmdhmcnedmnbaaDoor

def tailAt : Nat → Code → Code
  | 0, c => c
  | n + 1, .seq _ b => tailAt n b
  | _ + 1, c => c
noncomputable def tl (k : Nat) : Code := tailAt k (Tryd.f3.body.getD .skip)
end Go.Proofs.YtdmdhmcnedmnbaaDoor
