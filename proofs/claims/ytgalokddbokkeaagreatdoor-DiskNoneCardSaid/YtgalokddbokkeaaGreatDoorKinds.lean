import Derived.Test.YtgalokddbokkeaaGreatDoorBase
namespace Go.Proofs.YtgalokddbokkeaaGreatDoor
open Go.RowKit
def kv (a b c : Nat) : Value := .agg #[.func (.func a) #[] #[], .func (.func b) #[] #[], .func (.func c) #[] #[]]
end Go.Proofs.YtgalokddbokkeaaGreatDoor
