/-
  value.kindOf and value.parse.
-/
import Derived.Test.YtifmfcaaofiboaaGreatDoorTextB
namespace Go.Proofs.YtifmfcaaofiboaaGreatDoor
open Go.RowKit

theorem kindOf_null (w : World) : Calls Tryz.prog 56 #[.string ⟨#[110, 117, 108, 108]⟩] w fun e w' => e = .returned (.int .i64 0) ∧ w = w' := by
  go_enter Tryz.func56, Tryz.ntmps56
  go_wp2
  go_ret
  exact ⟨rfl, rfl⟩
theorem kindOf_false (w : World) : Calls Tryz.prog 56 #[.string ⟨#[102, 97, 108, 115, 101]⟩] w fun e w' => e = .returned (.int .i64 3) ∧ w = w' := by
  go_enter Tryz.func56, Tryz.ntmps56
  go_wp2
  go_ret
  exact ⟨rfl, rfl⟩
theorem kindOf_true (w : World) : Calls Tryz.prog 56 #[.string ⟨#[116, 114, 117, 101]⟩] w fun e w' => e = .returned (.int .i64 3) ∧ w = w' := by
  go_enter Tryz.func56, Tryz.ntmps56
  go_wp2
  go_ret
  exact ⟨rfl, rfl⟩
/-- no word stands there -/
structure NoWord (s : ByteArray) : Prop where
  n : (s.toList == [110, 117, 108, 108]) = false
  f : (s.toList == [102, 97, 108, 115, 101]) = false
  t : (s.toList == [116, 114, 117, 101]) = false
theorem kindOf_bytes (s : ByteArray) (w : World) (h : NoWord s) (hp : Lib.hasPrefix s.data.toList [120, 39] = true) : Calls Tryz.prog 56 #[.string s] w fun e w' => e = .returned (.int .i64 4) ∧ w = w' := by
  obtain ⟨h1, h2, h3⟩ := h
  go_enter Tryz.func56, Tryz.ntmps56
  go_wp2_with (first | (go_at_call 48; refine (Of_any _ _ _).mono ?_; rintro e w' ⟨rfl, rfl⟩) | (go_at_call 87; refine (Tryz.strings_HasPrefix _ _ _).mono ?_; rintro e w' ⟨rfl, rfl⟩))
  go_ret
  exact ⟨rfl, rfl⟩
theorem kindOf_uint (s : ByteArray) (w : World) (h : NoWord s) (hp : Lib.hasPrefix s.data.toList [120, 39] = false) (hs : Lib.hasSuffix s.data.toList [117] = true) (hz : s.size ≤ 9223372036854775806) : Calls Tryz.prog 56 #[.string s] w fun e w' => e = .returned (.int .i64 2) ∧ w = w' := by
  obtain ⟨h1, h2, h3⟩ := h
  go_enter Tryz.func56, Tryz.ntmps56
  go_wp2_with (first | (go_at_call 48; refine (Of_any _ _ _).mono ?_; rintro e w' ⟨rfl, rfl⟩) | (go_at_call 87; refine (Tryz.strings_HasPrefix _ _ _).mono ?_; rintro e w' ⟨rfl, rfl⟩) | (go_at_call 88; refine (Tryz.strings_HasSuffix _ _ _ ?_).mono ?_; omega; rintro e w' ⟨rfl, rfl⟩))
  go_ret
  exact ⟨rfl, rfl⟩
theorem kindOf_int (s : ByteArray) (w : World) (h : NoWord s) (hp : Lib.hasPrefix s.data.toList [120, 39] = false) (hs : Lib.hasSuffix s.data.toList [117] = false) (hz : s.size ≤ 9223372036854775806) : Calls Tryz.prog 56 #[.string s] w fun e w' => e = .returned (.int .i64 1) ∧ w = w' := by
  obtain ⟨h1, h2, h3⟩ := h
  go_enter Tryz.func56, Tryz.ntmps56
  go_wp2_with (first | (go_at_call 48; refine (Of_any _ _ _).mono ?_; rintro e w' ⟨rfl, rfl⟩) | (go_at_call 87; refine (Tryz.strings_HasPrefix _ _ _).mono ?_; rintro e w' ⟨rfl, rfl⟩) | (go_at_call 88; refine (Tryz.strings_HasSuffix _ _ _ ?_).mono ?_; omega; rintro e w' ⟨rfl, rfl⟩))
  go_ret
  exact ⟨rfl, rfl⟩

/-- A callee that computes with new blocks alone. -/
def Gives (f : Nat) (args : Array Value) (v : Value) : Prop := ∀ W, Calls Tryz.prog f args W fun e w' => e = .returned v ∧ Below W.heap.size W w'
def zeroV : Value := .agg #[.int .i64 0, .int .i64 0, .int .u64 0, .string ⟨#[]⟩]
end Go.Proofs.YtifmfcaaofiboaaGreatDoor
