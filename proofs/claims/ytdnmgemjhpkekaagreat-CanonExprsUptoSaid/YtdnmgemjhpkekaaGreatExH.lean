/-
  expr.part's methods; expr.checkOf.
-/
import Derived.Test.YtdnmgemjhpkekaaGreatExG
namespace Go.Proofs.YtdnmgemjhpkekaaGreat
open Go.ChangeShapes Go.WideShapes Go.ChangeAt Go.RowKit
set_option linter.unusedVariables false

end Go.Proofs.YtdnmgemjhpkekaaGreat
