/-
  The five functions that keep of a value what its Kind names.
-/
import Derived.Test.YtcedeipmboekaaaGreatDoorKinds
namespace Go.Proofs.YtcedeipmboekaaaGreatDoor
open Go.RowKit

set_option maxHeartbeats 400000 in
theorem onlyNull_any (k i u : Int) (s : ByteArray) (w : World) :
    Calls Tryz.prog 77 #[.agg #[.int .i64 k, .int .i64 i, .int .u64 u, .string s]] w fun e w' => e = .returned (.agg #[.int .i64 0, .int .i64 0, .int .u64 0, .string ⟨#[]⟩]) ∧
      (w.alloc (.cells #[.int .i64 k, .int .i64 i, .int .u64 u, .string s] 42)).alloc (.cells #[.int .i64 0, .int .i64 0, .int .u64 0, .string ⟨#[]⟩] 42) = w' := by
  go_enter Tryz.func77, Tryz.ntmps77
  go_wp2
  go_returns
  exact ⟨rfl, rfl⟩

set_option maxHeartbeats 400000 in
theorem onlyInt_any (k i u : Int) (s : ByteArray) (w : World) :
    Calls Tryz.prog 80 #[.agg #[.int .i64 k, .int .i64 i, .int .u64 u, .string s]] w fun e w' => e = .returned (.agg #[.int .i64 1, .int .i64 i, .int .u64 0, .string ⟨#[]⟩]) ∧
      (w.alloc (.cells #[.int .i64 k, .int .i64 i, .int .u64 u, .string s] 42)).alloc (.cells #[.int .i64 1, .int .i64 i, .int .u64 0, .string ⟨#[]⟩] 42) = w' := by
  go_enter Tryz.func80, Tryz.ntmps80
  go_wp2
  go_returns
  exact ⟨rfl, rfl⟩

set_option maxHeartbeats 400000 in
theorem onlyUint_any (k i u : Int) (s : ByteArray) (w : World) :
    Calls Tryz.prog 83 #[.agg #[.int .i64 k, .int .i64 i, .int .u64 u, .string s]] w fun e w' => e = .returned (.agg #[.int .i64 2, .int .i64 0, .int .u64 u, .string ⟨#[]⟩]) ∧
      (w.alloc (.cells #[.int .i64 k, .int .i64 i, .int .u64 u, .string s] 42)).alloc (.cells #[.int .i64 2, .int .i64 0, .int .u64 u, .string ⟨#[]⟩] 42) = w' := by
  go_enter Tryz.func83, Tryz.ntmps83
  go_wp2
  go_returns
  exact ⟨rfl, rfl⟩

set_option maxHeartbeats 400000 in
theorem onlyBool_any (k i u : Int) (s : ByteArray) (w : World) :
    Calls Tryz.prog 86 #[.agg #[.int .i64 k, .int .i64 i, .int .u64 u, .string s]] w fun e w' => e = .returned (.agg #[.int .i64 3, .int .i64 (bits BinOp.and .i64 i 1), .int .u64 0, .string ⟨#[]⟩]) ∧
      (w.alloc (.cells #[.int .i64 k, .int .i64 i, .int .u64 u, .string s] 42)).alloc (.cells #[.int .i64 3, .int .i64 (bits BinOp.and .i64 i 1), .int .u64 0, .string ⟨#[]⟩] 42) = w' := by
  go_enter Tryz.func86, Tryz.ntmps86
  go_wp2
  go_returns
  exact ⟨rfl, rfl⟩

set_option maxHeartbeats 400000 in
theorem onlyBytes_any (k i u : Int) (s : ByteArray) (w : World) :
    Calls Tryz.prog 89 #[.agg #[.int .i64 k, .int .i64 i, .int .u64 u, .string s]] w fun e w' => e = .returned (.agg #[.int .i64 4, .int .i64 0, .int .u64 0, .string s]) ∧
      (w.alloc (.cells #[.int .i64 k, .int .i64 i, .int .u64 u, .string s] 42)).alloc (.cells #[.int .i64 4, .int .i64 0, .int .u64 0, .string s] 42) = w' := by
  go_enter Tryz.func89, Tryz.ntmps89
  go_wp2
  go_returns
  exact ⟨rfl, rfl⟩
end Go.Proofs.YtcedeipmboekaaaGreatDoor
