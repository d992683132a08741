/-
  expr.isLeaf, Depth; the reference's Leaf, Depth.
-/
import Derived.Test.YtdnmgemjhpkekaaExB
import Derived.Test.YtdnmgemjhpkekaaArr
namespace Go.Proofs.Ytdnmgemjhpkekaa
open Go.ChangeShapes Go.WideShapes Go.ChangeAt Go.RowKit
set_option linter.unusedVariables false

end Go.Proofs.Ytdnmgemjhpkekaa
