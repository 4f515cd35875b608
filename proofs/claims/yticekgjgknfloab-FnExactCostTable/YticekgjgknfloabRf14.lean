/-
  What areRisingFrom0 answers.
-/
import Derived.Test.YticekgjgknfloabFr13
namespace Go.Proofs.Yticekgjgknfloab
open Go.RowKit

end Go.Proofs.Yticekgjgknfloab
