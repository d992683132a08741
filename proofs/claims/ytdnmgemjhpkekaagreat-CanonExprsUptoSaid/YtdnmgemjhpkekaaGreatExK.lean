/-
  expr.sign, leaves, Leaves: the iterator is made.
-/
import Derived.Test.YtdnmgemjhpkekaaGreatExF
namespace Go.Proofs.YtdnmgemjhpkekaaGreat
open Go.ChangeShapes Go.WideShapes Go.ChangeAt Go.RowKit
set_option linter.unusedVariables false

def sgK (k : Int) : List UInt8 := if k = 3 then [32, 43, 32] else if k = 4 then [32, 38, 32] else [32, 45, 32]
end Go.Proofs.YtdnmgemjhpkekaaGreat
