/-
  The five functions that keep of a value what its Kind names.
-/
import Derived.Test.YtgalokddbokkeaaGreatDoorKinds
namespace Go.Proofs.YtgalokddbokkeaaGreatDoor
open Go.RowKit

end Go.Proofs.YtgalokddbokkeaaGreatDoor
