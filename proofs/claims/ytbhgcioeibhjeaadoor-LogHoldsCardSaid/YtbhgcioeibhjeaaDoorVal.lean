/-
  Two values of package api held against each other.
-/
import Derived.Test.YtbhgcioeibhjeaaDoorBase
namespace Go.Proofs.YtbhgcioeibhjeaaDoor
open Go.RowKit

/-- are two values the same? -/
def vEqB (k i u : Int) (s : ByteArray) (k' i' u' : Int) (s' : ByteArray) : Bool := k == k' && (i == i' && (u == u' && s.toList == s'.toList))

end Go.Proofs.YtbhgcioeibhjeaaDoor
