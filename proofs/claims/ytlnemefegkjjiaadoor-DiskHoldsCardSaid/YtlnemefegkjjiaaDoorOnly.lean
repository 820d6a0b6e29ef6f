/-
  The five functions that keep of a value what its Kind names.
-/
import Derived.Test.YtlnemefegkjjiaaDoorKinds
namespace Go.Proofs.YtlnemefegkjjiaaDoor
open Go.RowKit

end Go.Proofs.YtlnemefegkjjiaaDoor
