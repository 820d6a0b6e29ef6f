/-
  value.taker and the closure that it returns: one digit a call.
-/
import Derived.Test.YtifmfcaaofiboaaGreatDoorBase
import Derived.Test.YtifmfcaaofiboaaGreatDoorShelf
namespace Go.Proofs.YtifmfcaaofiboaaGreatDoor
open Go.RowKit

/-- figures, as bytes -/
def figs : List UInt8 := [48, 49, 50, 51, 52, 53, 54, 55, 56, 57, 97, 98, 99, 100, 101, 102]
/-- the place of a byte among the first figures; -1: none -/
def dig (base : Nat) (c : UInt8) : Int := Lib.indexByte (figs.take base) c

theorem taker_any (s : ByteArray) (base : Int) (w : World) :
    Calls Tryz.prog 111 #[.string s, .int .i64 base] w fun e w' => e = .returned (.func (.func 116) #[] #[.pointer (some ⟨w.heap.size + 1 + 1, 0, none⟩), .pointer (some ⟨w.heap.size, 0, none⟩), .pointer (some ⟨w.heap.size + 1, 0, none⟩)]) ∧
      ((w.alloc (.cells #[.string s] 9)).alloc (.cells #[.int .i64 base] 3)).alloc (.cells #[.int .i64 0] 3) = w' := by
  go_enter Tryz.func111, Tryz.ntmps111
  go_wp2
  go_ret
  exact ⟨rfl, rfl⟩

/-- at the text's end -/
theorem taker1_end (A S B : Nat) (s : ByteArray) (k : Nat) (w : World) (hA : w.cell? ⟨A, 0, none⟩ = some (.int .i64 k)) (hS : w.cell? ⟨S, 0, none⟩ = some (.string s)) (hk : s.size ≤ k) :
    Calls Tryz.prog 116 #[.pointer (some ⟨A, 0, none⟩), .pointer (some ⟨S, 0, none⟩), .pointer (some ⟨B, 0, none⟩)] w fun e w' => e = .returned (.tuple #[.int .u64 0, .bool false]) ∧ w = w' := by
  go_enter Tryz.func116, Tryz.ntmps116
  go_wp2
  go_ret2
  exact ⟨rfl, rfl⟩

theorem indexByte_bd (l : List UInt8) (c : UInt8) : -1 ≤ Lib.indexByte l c ∧ Lib.indexByte l c < l.length := by
  refine ⟨Lib.indexByte_ge l c, ?_⟩
  induction l with
  | nil => simp [Lib.indexByte]
  | cons b l ih =>
    simp only [Lib.indexByte, List.length_cons]
    split
    · omega
    · split <;> omega
theorem dig10_bd (c : UInt8) : -1 ≤ dig 10 c ∧ dig 10 c < 10 := indexByte_bd (figs.take 10) c
theorem dig16_bd (c : UInt8) : -1 ≤ dig 16 c ∧ dig 16 c < 16 := indexByte_bd (figs.take 16) c
theorem wrap_dig10 (c : UInt8) : IntKind.u64.wrap (max (dig 10 c) 0) = max (dig 10 c) 0 := by
  have := dig10_bd c
  rw [IntKind.wrap_u64]; omega
theorem wrap_dig16 (c : UInt8) : IntKind.u64.wrap (max (dig 16 c) 0) = max (dig 16 c) 0 := by
  have := dig16_bd c
  rw [IntKind.wrap_u64]; omega

set_option maxHeartbeats 1000000 in
theorem taker1_at10 (A S B : Nat) (s : ByteArray) (k : Nat) (c : UInt8) (w : World) (hA : w.cell? ⟨A, 0, none⟩ = some (.int .i64 k)) (hS : w.cell? ⟨S, 0, none⟩ = some (.string s)) (hB : w.cell? ⟨B, 0, none⟩ = some (.int .i64 10)) (hf : w.frozen? ⟨A, 0, none⟩ = false) (hk : k < s.size) (hz : s.size ≤ 9223372036854775806) (hc : s[k] = c) :
    Calls Tryz.prog 116 #[.pointer (some ⟨A, 0, none⟩), .pointer (some ⟨S, 0, none⟩), .pointer (some ⟨B, 0, none⟩)] w fun e w' => e = .returned (.tuple #[.int .u64 (max (dig 10 c) 0), .bool (decide (0 ≤ dig 10 c))]) ∧ ∃ q, (w.drewN q).setCell ⟨A, 0, none⟩ (.int .i64 (k + 1)) = w' := by
  have hk0 : (0 : Int) ≤ (k : Int) := by omega
  have hk1 : (k : Int) < (s.size : Int) := by omega
  go_enter Tryz.func116, Tryz.ntmps116
  go_wp2_with fail
  go_quiet ((go_at_call 117; exact Calls.quiet_of_same (Tryz.strings_IndexByte _ _ _)))
  go_wp2_with fail
  go_ret2
  refine ⟨?_, _, rfl⟩
  rw [← wrap_dig10 c]
  rfl

set_option maxHeartbeats 1000000 in
theorem taker1_at16 (A S B : Nat) (s : ByteArray) (k : Nat) (c : UInt8) (w : World) (hA : w.cell? ⟨A, 0, none⟩ = some (.int .i64 k)) (hS : w.cell? ⟨S, 0, none⟩ = some (.string s)) (hB : w.cell? ⟨B, 0, none⟩ = some (.int .i64 16)) (hf : w.frozen? ⟨A, 0, none⟩ = false) (hk : k < s.size) (hz : s.size ≤ 9223372036854775806) (hc : s[k] = c) :
    Calls Tryz.prog 116 #[.pointer (some ⟨A, 0, none⟩), .pointer (some ⟨S, 0, none⟩), .pointer (some ⟨B, 0, none⟩)] w fun e w' => e = .returned (.tuple #[.int .u64 (max (dig 16 c) 0), .bool (decide (0 ≤ dig 16 c))]) ∧ ∃ q, (w.drewN q).setCell ⟨A, 0, none⟩ (.int .i64 (k + 1)) = w' := by
  have hk0 : (0 : Int) ≤ (k : Int) := by omega
  have hk1 : (k : Int) < (s.size : Int) := by omega
  go_enter Tryz.func116, Tryz.ntmps116
  go_wp2_with fail
  go_quiet ((go_at_call 117; exact Calls.quiet_of_same (Tryz.strings_IndexByte _ _ _)))
  go_wp2_with fail
  go_ret2
  refine ⟨?_, _, rfl⟩
  rw [← wrap_dig16 c]
  rfl
end Go.Proofs.YtifmfcaaofiboaaGreatDoor
