/-
  The five functions that keep of a value what its Kind names.
-/
import Derived.Test.YtanjfnahhgigmaaGreatDoorKinds
namespace Go.Proofs.YtanjfnahhgigmaaGreatDoor
open Go.RowKit

set_option maxHeartbeats 400000 in
theorem onlyNull_any (k i u : Int) (s : ByteArray) (w : World) :
    Calls Tryz.prog 69 #[.agg #[.int .i64 k, .int .i64 i, .int .u64 u, .string s]] w fun e w' => e = .returned (.agg #[.int .i64 0, .int .i64 0, .int .u64 0, .string ⟨#[]⟩]) ∧
      (w.alloc (.cells #[.int .i64 k, .int .i64 i, .int .u64 u, .string s] 47)).alloc (.cells #[.int .i64 0, .int .i64 0, .int .u64 0, .string ⟨#[]⟩] 47) = w' := by
  go_enter Tryz.func69, Tryz.ntmps69
  go_wp2
  go_returns
  exact ⟨rfl, rfl⟩

set_option maxHeartbeats 400000 in
theorem onlyInt_any (k i u : Int) (s : ByteArray) (w : World) :
    Calls Tryz.prog 72 #[.agg #[.int .i64 k, .int .i64 i, .int .u64 u, .string s]] w fun e w' => e = .returned (.agg #[.int .i64 1, .int .i64 i, .int .u64 0, .string ⟨#[]⟩]) ∧
      (w.alloc (.cells #[.int .i64 k, .int .i64 i, .int .u64 u, .string s] 47)).alloc (.cells #[.int .i64 1, .int .i64 i, .int .u64 0, .string ⟨#[]⟩] 47) = w' := by
  go_enter Tryz.func72, Tryz.ntmps72
  go_wp2
  go_returns
  exact ⟨rfl, rfl⟩

set_option maxHeartbeats 400000 in
theorem onlyUint_any (k i u : Int) (s : ByteArray) (w : World) :
    Calls Tryz.prog 75 #[.agg #[.int .i64 k, .int .i64 i, .int .u64 u, .string s]] w fun e w' => e = .returned (.agg #[.int .i64 2, .int .i64 0, .int .u64 u, .string ⟨#[]⟩]) ∧
      (w.alloc (.cells #[.int .i64 k, .int .i64 i, .int .u64 u, .string s] 47)).alloc (.cells #[.int .i64 2, .int .i64 0, .int .u64 u, .string ⟨#[]⟩] 47) = w' := by
  go_enter Tryz.func75, Tryz.ntmps75
  go_wp2
  go_returns
  exact ⟨rfl, rfl⟩

set_option maxHeartbeats 400000 in
theorem onlyBool_any (k i u : Int) (s : ByteArray) (w : World) :
    Calls Tryz.prog 78 #[.agg #[.int .i64 k, .int .i64 i, .int .u64 u, .string s]] w fun e w' => e = .returned (.agg #[.int .i64 3, .int .i64 (bits BinOp.and .i64 i 1), .int .u64 0, .string ⟨#[]⟩]) ∧
      (w.alloc (.cells #[.int .i64 k, .int .i64 i, .int .u64 u, .string s] 47)).alloc (.cells #[.int .i64 3, .int .i64 (bits BinOp.and .i64 i 1), .int .u64 0, .string ⟨#[]⟩] 47) = w' := by
  go_enter Tryz.func78, Tryz.ntmps78
  go_wp2
  go_returns
  exact ⟨rfl, rfl⟩

set_option maxHeartbeats 400000 in
theorem onlyBytes_any (k i u : Int) (s : ByteArray) (w : World) :
    Calls Tryz.prog 81 #[.agg #[.int .i64 k, .int .i64 i, .int .u64 u, .string s]] w fun e w' => e = .returned (.agg #[.int .i64 4, .int .i64 0, .int .u64 0, .string s]) ∧
      (w.alloc (.cells #[.int .i64 k, .int .i64 i, .int .u64 u, .string s] 47)).alloc (.cells #[.int .i64 4, .int .i64 0, .int .u64 0, .string s] 47) = w' := by
  go_enter Tryz.func81, Tryz.ntmps81
  go_wp2
  go_returns
  exact ⟨rfl, rfl⟩
end Go.Proofs.YtanjfnahhgigmaaGreatDoor
