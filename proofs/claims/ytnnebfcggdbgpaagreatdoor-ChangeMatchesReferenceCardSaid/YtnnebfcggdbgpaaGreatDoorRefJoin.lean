/-
  vestryref01.Join.
-/
import Derived.Test.YtnnebfcggdbgpaaGreatDoorApp
import Derived.Test.YtnnebfcggdbgpaaGreatDoorRowsOf
import Derived.Test.YtnnebfcggdbgpaaGreatDoorSame
namespace Go.Proofs.YtnnebfcggdbgpaaGreatDoor
open Go.ChangeShapes Go.WideShapes Go.ChangeAt Go.RowKit

end Go.Proofs.YtnnebfcggdbgpaaGreatDoor
