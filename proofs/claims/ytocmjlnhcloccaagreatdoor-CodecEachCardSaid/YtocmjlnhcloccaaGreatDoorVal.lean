/-
  Two values of package api held against each other.
-/
import Derived.Test.YtocmjlnhcloccaaGreatDoorBase
namespace Go.Proofs.YtocmjlnhcloccaaGreatDoor
open Go.RowKit

/-- are two values the same? -/
def vEqB (k i u : Int) (s : ByteArray) (k' i' u' : Int) (s' : ByteArray) : Bool := k == k' && (i == i' && (u == u' && s.toList == s'.toList))

theorem run_neq_val (k i u : Int) (s : ByteArray) (k' i' u' : Int) (s' : ByteArray) (w : World) :
    (binOp .neq 68 (.agg #[.int .i64 k, .int .i64 i, .int .u64 u, .string s]) (.agg #[.int .i64 k', .int .i64 i', .int .u64 u', .string s'])).run Tryz.prog w = .ok (.bool (!vEqB k i u s k' i' u' s')) w := by
  unfold vEqB
  cases h1 : k == k' <;> cases h2 : i == i' <;> cases h3 : u == u' <;> cases h4 : s.toList == s'.toList <;> (go_simp; try simp [h1, h2, h3, h4])
theorem run_eql_val (k i u : Int) (s : ByteArray) (k' i' u' : Int) (s' : ByteArray) (w : World) :
    (binOp .eql 68 (.agg #[.int .i64 k, .int .i64 i, .int .u64 u, .string s]) (.agg #[.int .i64 k', .int .i64 i', .int .u64 u', .string s'])).run Tryz.prog w = .ok (.bool (vEqB k i u s k' i' u' s')) w := by
  unfold vEqB
  cases h1 : k == k' <;> cases h2 : i == i' <;> cases h3 : u == u' <;> cases h4 : s.toList == s'.toList <;> (go_simp; try simp [h1, h2, h3, h4])
end Go.Proofs.YtocmjlnhcloccaaGreatDoor
