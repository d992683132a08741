/-
  expr.part's methods; expr.checkOf.
-/
import Derived.Test.YtdnmgemjhpkekaaExG
namespace Go.Proofs.Ytdnmgemjhpkekaa
open Go.ChangeShapes Go.WideShapes Go.ChangeAt Go.RowKit
set_option linter.unusedVariables false

end Go.Proofs.Ytdnmgemjhpkekaa
