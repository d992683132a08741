/-
  vestryref01.Join.
-/
import Derived.Test.YtdnmgemjhpkekaaGreatDoorApp
import Derived.Test.YtdnmgemjhpkekaaGreatDoorRowsOf
import Derived.Test.YtdnmgemjhpkekaaGreatDoorSame
namespace Go.Proofs.YtdnmgemjhpkekaaGreatDoor
open Go.ChangeShapes Go.WideShapes Go.ChangeAt Go.RowKit

end Go.Proofs.YtdnmgemjhpkekaaGreatDoor
