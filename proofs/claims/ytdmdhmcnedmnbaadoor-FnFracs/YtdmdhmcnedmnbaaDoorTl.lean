/-
  The law on fractions: what is left of its text behind so many statements.
-/
import Derived.Test.YtdmdhmcnedmnbaaDoorVa
namespace Go.Proofs.YtdmdhmcnedmnbaaDoor

def tailAt : Nat → Code → Code
  | 0, c => c
  | n + 1, .seq _ b => tailAt n b
  | _ + 1, c => c
end Go.Proofs.YtdmdhmcnedmnbaaDoor
