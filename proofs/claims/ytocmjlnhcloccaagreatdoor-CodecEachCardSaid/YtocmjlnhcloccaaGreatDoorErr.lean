/-
  Errors that value.check and value.parse make, and look-ups in the map of kinds.
-/
import Derived.Test.YtocmjlnhcloccaaGreatDoorOnly
import Derived.Test.YtocmjlnhcloccaaGreatDoorVal
namespace Go.Proofs.YtocmjlnhcloccaaGreatDoor
open Go.RowKit

/-- The call returns an error that wraps the number n; what was there before is as it was. -/
def IsErr (n : Int) (w : World) (e : Ending) (w' : World) : Prop :=
  ∃ b, e = .returned (.iface 138 (.pointer (some ⟨b, 0, none⟩))) ∧ w.heap.size ≤ b ∧ w'.cell? ⟨b, 1, none⟩ = some (.int .i64 n) ∧ Below w.heap.size w w'

set_option maxHeartbeats 400000 in
theorem Of_any (s : ByteArray) (n : Int) (w : World) : Calls Tryz.prog 88 #[.string s, .int .i64 n] w fun e w' => e = .returned (.iface 138 (.pointer (some ⟨w.heap.size, 0, none⟩))) ∧ w' = w.alloc (.cells #[.string s, .int .i64 n] 165) := by
  go_enter Tryz.func88, Tryz.ntmps88
  go_wp2_with fail
  go_ret
  exact ⟨rfl, by simp [go_sem]⟩
theorem kinds_found {k : Int} {j : Nat} {v : Value} {w : World} {r : Nat} (hb : w.heap[r]? = some (.map mapKinds 5)) (hf : Instr.findNow (.int .i64) (.int .i64 k) mapKinds.toList 0 = some (some (j, v))) :
    (Instr.lookup 245 (.map (some r)) (.int .i64 k) true).run Tryz.prog w = .ok (.tuple #[v, .bool true]) w :=
  run_lookup_known w Tryz.underlying245 Tryz.underlying65 hb hf true
theorem kinds_got {k : Int} {j : Nat} {v : Value} {w : World} {r : Nat} (hb : w.heap[r]? = some (.map mapKinds 5)) (hf : Instr.findNow (.int .i64) (.int .i64 k) mapKinds.toList 0 = some (some (j, v))) :
    (Instr.lookup 245 (.map (some r)) (.int .i64 k) false).run Tryz.prog w = .ok v w :=
  run_lookup_known w Tryz.underlying245 Tryz.underlying65 hb hf false
theorem kinds_not {k : Int} {w : World} {r : Nat} (hb : w.heap[r]? = some (.map mapKinds 5)) (hf : Instr.findNow (.int .i64) (.int .i64 k) mapKinds.toList 0 = some none) :
    (Instr.lookup 245 (.map (some r)) (.int .i64 k) true).run Tryz.prog w = .ok (.tuple #[.agg #[.nilFunc, .nilFunc, .nilFunc], .bool false]) w :=
  run_lookup_none w Tryz.underlying245 Tryz.underlying65 hb hf (by kernel_rfl) true
theorem mapA (w : World) (C M : Obj) : ((w.alloc C).alloc M).drew.heap[w.heap.size + 1]? = some M := by
  show ((w.alloc C).alloc M).heap[w.heap.size + 1]? = _
  rw [← World.size_alloc w C]; exact heap_alloc_at _ _
theorem mapB (w : World) (C M Z : Obj) : (((w.alloc C).alloc M).alloc Z).drew.heap[w.heap.size + 1]? = some M := by
  show (((w.alloc C).alloc M).alloc Z).heap[w.heap.size + 1]? = _
  rw [Below.heap_alloc _ _ _ (by simp)]; exact mapA w C M
theorem mapD (w : World) (C M Z : Obj) : (((w.alloc C).alloc Z).alloc M).drew.heap[w.heap.size + 1 + 1]? = some M := by
  show (((w.alloc C).alloc Z).alloc M).heap[w.heap.size + 1 + 1]? = _
  rw [← World.size_alloc w C, ← World.size_alloc (w.alloc C) Z]; exact heap_alloc_at _ _
end Go.Proofs.YtocmjlnhcloccaaGreatDoor
