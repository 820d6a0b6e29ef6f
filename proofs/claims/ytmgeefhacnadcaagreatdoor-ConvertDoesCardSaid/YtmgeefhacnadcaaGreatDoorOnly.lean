/-
  The five functions that keep of a value what its Kind names.
-/
import Derived.Test.YtmgeefhacnadcaaGreatDoorKinds
namespace Go.Proofs.YtmgeefhacnadcaaGreatDoor
open Go.RowKit

set_option maxHeartbeats 400000 in
theorem onlyNull_any (k i u : Int) (s : ByteArray) (w : World) :
    Calls Tryz.prog 125 #[.agg #[.int .i64 k, .int .i64 i, .int .u64 u, .string s]] w fun e w' => e = .returned (.agg #[.int .i64 0, .int .i64 0, .int .u64 0, .string ⟨#[]⟩]) ∧
      (w.alloc (.cells #[.int .i64 k, .int .i64 i, .int .u64 u, .string s] 28)).alloc (.cells #[.int .i64 0, .int .i64 0, .int .u64 0, .string ⟨#[]⟩] 28) = w' := by
  go_enter Tryz.func125, Tryz.ntmps125
  go_wp2
  go_returns
  exact ⟨rfl, rfl⟩

set_option maxHeartbeats 400000 in
theorem onlyInt_any (k i u : Int) (s : ByteArray) (w : World) :
    Calls Tryz.prog 128 #[.agg #[.int .i64 k, .int .i64 i, .int .u64 u, .string s]] w fun e w' => e = .returned (.agg #[.int .i64 1, .int .i64 i, .int .u64 0, .string ⟨#[]⟩]) ∧
      (w.alloc (.cells #[.int .i64 k, .int .i64 i, .int .u64 u, .string s] 28)).alloc (.cells #[.int .i64 1, .int .i64 i, .int .u64 0, .string ⟨#[]⟩] 28) = w' := by
  go_enter Tryz.func128, Tryz.ntmps128
  go_wp2
  go_returns
  exact ⟨rfl, rfl⟩

set_option maxHeartbeats 400000 in
theorem onlyUint_any (k i u : Int) (s : ByteArray) (w : World) :
    Calls Tryz.prog 131 #[.agg #[.int .i64 k, .int .i64 i, .int .u64 u, .string s]] w fun e w' => e = .returned (.agg #[.int .i64 2, .int .i64 0, .int .u64 u, .string ⟨#[]⟩]) ∧
      (w.alloc (.cells #[.int .i64 k, .int .i64 i, .int .u64 u, .string s] 28)).alloc (.cells #[.int .i64 2, .int .i64 0, .int .u64 u, .string ⟨#[]⟩] 28) = w' := by
  go_enter Tryz.func131, Tryz.ntmps131
  go_wp2
  go_returns
  exact ⟨rfl, rfl⟩

set_option maxHeartbeats 400000 in
theorem onlyBool_any (k i u : Int) (s : ByteArray) (w : World) :
    Calls Tryz.prog 134 #[.agg #[.int .i64 k, .int .i64 i, .int .u64 u, .string s]] w fun e w' => e = .returned (.agg #[.int .i64 3, .int .i64 (bits BinOp.and .i64 i 1), .int .u64 0, .string ⟨#[]⟩]) ∧
      (w.alloc (.cells #[.int .i64 k, .int .i64 i, .int .u64 u, .string s] 28)).alloc (.cells #[.int .i64 3, .int .i64 (bits BinOp.and .i64 i 1), .int .u64 0, .string ⟨#[]⟩] 28) = w' := by
  go_enter Tryz.func134, Tryz.ntmps134
  go_wp2
  go_returns
  exact ⟨rfl, rfl⟩

set_option maxHeartbeats 400000 in
theorem onlyBytes_any (k i u : Int) (s : ByteArray) (w : World) :
    Calls Tryz.prog 137 #[.agg #[.int .i64 k, .int .i64 i, .int .u64 u, .string s]] w fun e w' => e = .returned (.agg #[.int .i64 4, .int .i64 0, .int .u64 0, .string s]) ∧
      (w.alloc (.cells #[.int .i64 k, .int .i64 i, .int .u64 u, .string s] 28)).alloc (.cells #[.int .i64 4, .int .i64 0, .int .u64 0, .string s] 28) = w' := by
  go_enter Tryz.func137, Tryz.ntmps137
  go_wp2
  go_returns
  exact ⟨rfl, rfl⟩
end Go.Proofs.YtmgeefhacnadcaaGreatDoor
