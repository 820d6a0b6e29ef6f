import Derived.Test.YtlnemefegkjjiaaDoorBase
namespace Go.Proofs.YtlnemefegkjjiaaDoor
open Go.RowKit
def kv (a b c : Nat) : Value := .agg #[.func (.func a) #[] #[], .func (.func b) #[] #[], .func (.func c) #[] #[]]
end Go.Proofs.YtlnemefegkjjiaaDoor
