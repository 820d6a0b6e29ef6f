/-
  The five functions that keep of a value what its Kind names.
-/
import Derived.Test.YtifmfcaaofiboaaGreatDoorKinds
namespace Go.Proofs.YtifmfcaaofiboaaGreatDoor
open Go.RowKit

set_option maxHeartbeats 400000 in
theorem onlyNull_any (k i u : Int) (s : ByteArray) (w : World) :
    Calls Tryz.prog 67 #[.agg #[.int .i64 k, .int .i64 i, .int .u64 u, .string s]] w fun e w' => e = .returned (.agg #[.int .i64 0, .int .i64 0, .int .u64 0, .string ⟨#[]⟩]) ∧
      (w.alloc (.cells #[.int .i64 k, .int .i64 i, .int .u64 u, .string s] 25)).alloc (.cells #[.int .i64 0, .int .i64 0, .int .u64 0, .string ⟨#[]⟩] 25) = w' := by
  go_enter Tryz.func67, Tryz.ntmps67
  go_wp2
  go_returns
  exact ⟨rfl, rfl⟩

set_option maxHeartbeats 400000 in
theorem onlyInt_any (k i u : Int) (s : ByteArray) (w : World) :
    Calls Tryz.prog 70 #[.agg #[.int .i64 k, .int .i64 i, .int .u64 u, .string s]] w fun e w' => e = .returned (.agg #[.int .i64 1, .int .i64 i, .int .u64 0, .string ⟨#[]⟩]) ∧
      (w.alloc (.cells #[.int .i64 k, .int .i64 i, .int .u64 u, .string s] 25)).alloc (.cells #[.int .i64 1, .int .i64 i, .int .u64 0, .string ⟨#[]⟩] 25) = w' := by
  go_enter Tryz.func70, Tryz.ntmps70
  go_wp2
  go_returns
  exact ⟨rfl, rfl⟩

set_option maxHeartbeats 400000 in
theorem onlyUint_any (k i u : Int) (s : ByteArray) (w : World) :
    Calls Tryz.prog 73 #[.agg #[.int .i64 k, .int .i64 i, .int .u64 u, .string s]] w fun e w' => e = .returned (.agg #[.int .i64 2, .int .i64 0, .int .u64 u, .string ⟨#[]⟩]) ∧
      (w.alloc (.cells #[.int .i64 k, .int .i64 i, .int .u64 u, .string s] 25)).alloc (.cells #[.int .i64 2, .int .i64 0, .int .u64 u, .string ⟨#[]⟩] 25) = w' := by
  go_enter Tryz.func73, Tryz.ntmps73
  go_wp2
  go_returns
  exact ⟨rfl, rfl⟩

set_option maxHeartbeats 400000 in
theorem onlyBool_any (k i u : Int) (s : ByteArray) (w : World) :
    Calls Tryz.prog 76 #[.agg #[.int .i64 k, .int .i64 i, .int .u64 u, .string s]] w fun e w' => e = .returned (.agg #[.int .i64 3, .int .i64 (bits BinOp.and .i64 i 1), .int .u64 0, .string ⟨#[]⟩]) ∧
      (w.alloc (.cells #[.int .i64 k, .int .i64 i, .int .u64 u, .string s] 25)).alloc (.cells #[.int .i64 3, .int .i64 (bits BinOp.and .i64 i 1), .int .u64 0, .string ⟨#[]⟩] 25) = w' := by
  go_enter Tryz.func76, Tryz.ntmps76
  go_wp2
  go_returns
  exact ⟨rfl, rfl⟩

set_option maxHeartbeats 400000 in
theorem onlyBytes_any (k i u : Int) (s : ByteArray) (w : World) :
    Calls Tryz.prog 79 #[.agg #[.int .i64 k, .int .i64 i, .int .u64 u, .string s]] w fun e w' => e = .returned (.agg #[.int .i64 4, .int .i64 0, .int .u64 0, .string s]) ∧
      (w.alloc (.cells #[.int .i64 k, .int .i64 i, .int .u64 u, .string s] 25)).alloc (.cells #[.int .i64 4, .int .i64 0, .int .u64 0, .string s] 25) = w' := by
  go_enter Tryz.func79, Tryz.ntmps79
  go_wp2
  go_returns
  exact ⟨rfl, rfl⟩
end Go.Proofs.YtifmfcaaofiboaaGreatDoor
