/-
  A slice of bytes in memory.
-/
import Derived.Test.YtkjdhkpnbgflhaaOLay
namespace Go.Proofs.Ytkjdhkpnbgflhaa
open Go.RowKit

/-- a slice of bytes -/
def BytesAt (w : World) (v : Value) (l : List UInt8) : Prop := ∃ oa cap, v = .slice oa l.length cap ∧ l.length ≤ cap ∧ ∀ (j : Nat) (h : j < l.length), ∃ a, oa = some a ∧ w.cell? (a.add j) = some (.int .u8 (l[j].toNat : Int))
end Go.Proofs.Ytkjdhkpnbgflhaa
