/-
  The five functions that keep of a value what its Kind names.
-/
import Derived.Test.YtjlhbpacecbfmaaGreatDoorKinds
namespace Go.Proofs.YtjlhbpacecbfmaaGreatDoor
open Go.RowKit

set_option maxHeartbeats 400000 in
theorem onlyNull_any (k i u : Int) (s : ByteArray) (w : World) :
    Calls Tryz.prog 95 #[.agg #[.int .i64 k, .int .i64 i, .int .u64 u, .string s]] w fun e w' => e = .returned (.agg #[.int .i64 0, .int .i64 0, .int .u64 0, .string ⟨#[]⟩]) ∧
      (w.alloc (.cells #[.int .i64 k, .int .i64 i, .int .u64 u, .string s] 47)).alloc (.cells #[.int .i64 0, .int .i64 0, .int .u64 0, .string ⟨#[]⟩] 47) = w' := by
  go_enter Tryz.func95, Tryz.ntmps95
  go_wp2
  go_returns
  exact ⟨rfl, rfl⟩

set_option maxHeartbeats 400000 in
theorem onlyInt_any (k i u : Int) (s : ByteArray) (w : World) :
    Calls Tryz.prog 98 #[.agg #[.int .i64 k, .int .i64 i, .int .u64 u, .string s]] w fun e w' => e = .returned (.agg #[.int .i64 1, .int .i64 i, .int .u64 0, .string ⟨#[]⟩]) ∧
      (w.alloc (.cells #[.int .i64 k, .int .i64 i, .int .u64 u, .string s] 47)).alloc (.cells #[.int .i64 1, .int .i64 i, .int .u64 0, .string ⟨#[]⟩] 47) = w' := by
  go_enter Tryz.func98, Tryz.ntmps98
  go_wp2
  go_returns
  exact ⟨rfl, rfl⟩

set_option maxHeartbeats 400000 in
theorem onlyUint_any (k i u : Int) (s : ByteArray) (w : World) :
    Calls Tryz.prog 101 #[.agg #[.int .i64 k, .int .i64 i, .int .u64 u, .string s]] w fun e w' => e = .returned (.agg #[.int .i64 2, .int .i64 0, .int .u64 u, .string ⟨#[]⟩]) ∧
      (w.alloc (.cells #[.int .i64 k, .int .i64 i, .int .u64 u, .string s] 47)).alloc (.cells #[.int .i64 2, .int .i64 0, .int .u64 u, .string ⟨#[]⟩] 47) = w' := by
  go_enter Tryz.func101, Tryz.ntmps101
  go_wp2
  go_returns
  exact ⟨rfl, rfl⟩

set_option maxHeartbeats 400000 in
theorem onlyBool_any (k i u : Int) (s : ByteArray) (w : World) :
    Calls Tryz.prog 104 #[.agg #[.int .i64 k, .int .i64 i, .int .u64 u, .string s]] w fun e w' => e = .returned (.agg #[.int .i64 3, .int .i64 (bits BinOp.and .i64 i 1), .int .u64 0, .string ⟨#[]⟩]) ∧
      (w.alloc (.cells #[.int .i64 k, .int .i64 i, .int .u64 u, .string s] 47)).alloc (.cells #[.int .i64 3, .int .i64 (bits BinOp.and .i64 i 1), .int .u64 0, .string ⟨#[]⟩] 47) = w' := by
  go_enter Tryz.func104, Tryz.ntmps104
  go_wp2
  go_returns
  exact ⟨rfl, rfl⟩

set_option maxHeartbeats 400000 in
theorem onlyBytes_any (k i u : Int) (s : ByteArray) (w : World) :
    Calls Tryz.prog 107 #[.agg #[.int .i64 k, .int .i64 i, .int .u64 u, .string s]] w fun e w' => e = .returned (.agg #[.int .i64 4, .int .i64 0, .int .u64 0, .string s]) ∧
      (w.alloc (.cells #[.int .i64 k, .int .i64 i, .int .u64 u, .string s] 47)).alloc (.cells #[.int .i64 4, .int .i64 0, .int .u64 0, .string s] 47) = w' := by
  go_enter Tryz.func107, Tryz.ntmps107
  go_wp2
  go_returns
  exact ⟨rfl, rfl⟩
end Go.Proofs.YtjlhbpacecbfmaaGreatDoor
