/-
  The five functions that keep of a value what its Kind names.
-/
import Derived.Test.YtbhgcioeibhjeaaDoorKinds
namespace Go.Proofs.YtbhgcioeibhjeaaDoor
open Go.RowKit

end Go.Proofs.YtbhgcioeibhjeaaDoor
