import Derived.Test.YtbhgcioeibhjeaaDoorBase
namespace Go.Proofs.YtbhgcioeibhjeaaDoor
open Go.RowKit
def kv (a b c : Nat) : Value := .agg #[.func (.func a) #[] #[], .func (.func b) #[] #[], .func (.func c) #[] #[]]
end Go.Proofs.YtbhgcioeibhjeaaDoor
