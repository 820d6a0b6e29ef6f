/-
  Errors that value.check and value.parse make, and look-ups in the map of kinds.
-/
import Derived.Test.YtbhgcioeibhjeaaDoorOnly
import Derived.Test.YtbhgcioeibhjeaaDoorVal
namespace Go.Proofs.YtbhgcioeibhjeaaDoor
open Go.RowKit

/-- The call returns an error that wraps the number n; what was there before is as it was. -/
def IsErr (n : Int) (w : World) (e : Ending) (w' : World) : Prop :=
  ∃ b, e = .returned (.iface 106 (.pointer (some ⟨b, 0, none⟩))) ∧ w.heap.size ≤ b ∧ w'.cell? ⟨b, 1, none⟩ = some (.int .i64 n) ∧ Below w.heap.size w w'

set_option maxHeartbeats 400000 in
theorem Of_any (s : ByteArray) (n : Int) (w : World) : Calls Tryd.prog 34 #[.string s, .int .i64 n] w fun e w' => e = .returned (.iface 106 (.pointer (some ⟨w.heap.size, 0, none⟩))) ∧ w' = w.alloc (.cells #[.string s, .int .i64 n] 108) := by
  go_enter Tryd.func34, Tryd.ntmps34
  go_wp2_with fail
  go_ret
  exact ⟨rfl, by simp [go_sem]⟩
theorem mapA (w : World) (C M : Obj) : ((w.alloc C).alloc M).drew.heap[w.heap.size + 1]? = some M := by
  show ((w.alloc C).alloc M).heap[w.heap.size + 1]? = _
  rw [← World.size_alloc w C]; exact heap_alloc_at _ _
theorem mapB (w : World) (C M Z : Obj) : (((w.alloc C).alloc M).alloc Z).drew.heap[w.heap.size + 1]? = some M := by
  show (((w.alloc C).alloc M).alloc Z).heap[w.heap.size + 1]? = _
  rw [Below.heap_alloc _ _ _ (by simp)]; exact mapA w C M
theorem mapD (w : World) (C M Z : Obj) : (((w.alloc C).alloc Z).alloc M).drew.heap[w.heap.size + 1 + 1]? = some M := by
  show (((w.alloc C).alloc Z).alloc M).heap[w.heap.size + 1 + 1]? = _
  rw [← World.size_alloc w C, ← World.size_alloc (w.alloc C) Z]; exact heap_alloc_at _ _
end Go.Proofs.YtbhgcioeibhjeaaDoor
