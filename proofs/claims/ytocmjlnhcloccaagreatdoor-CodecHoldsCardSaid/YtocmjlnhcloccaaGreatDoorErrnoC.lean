/-
  value.errno.
-/
import Derived.Test.YtocmjlnhcloccaaGreatDoorErrnoB
import Derived.Lib.Hide
namespace Go.Proofs.YtocmjlnhcloccaaGreatDoor
open Go.RowKit

/-- The cell that errors.errorType has. -/
def HasET (w : World) : Prop := w.cell? ⟨0, 0, none⟩ = some (.iface 214 (.agg #[.pointer (some ⟨5, 112, none⟩)]))
theorem HasET.lt {w : World} (h : HasET w) : 0 < w.heap.size := by
  rcases Nat.lt_or_ge 0 w.heap.size with h' | h'
  · exact h'
  · simp [HasET, World.cell?, Array.getElem?_eq_none h'] at h
theorem HasET.below {B : Nat} {w w' : World} (h : HasET w) (hb : Below B w w') (hB : 0 < B) : HasET w' := by
  unfold HasET at *
  rw [hb.cell (p := ⟨0, 0, none⟩) hB]; exact h
theorem cell_lt {w : World} {b o : Nat} {v : Value} (h : w.cell? ⟨b, o, none⟩ = some v) : b < w.heap.size := by
  rcases Nat.lt_or_ge b w.heap.size with h' | h'
  · exact h'
  · simp [World.cell?, Array.getElem?_eq_none h'] at h

set_option maxHeartbeats 400000 in
theorem errno_nil (w : World) :
    Calls Tryz.prog 58 #[.nilIface] w fun e w' => e = .returned (.int .i64 0) ∧ Below w.heap.size w w' := by
  go_enter Tryz.func58, Tryz.ntmps58
  go_wp2_with (first | (go_at_call 86; refine (as_nil _ _).mono ?_; rintro e w' ⟨rfl, rfl⟩))
  go_ret
  exact ⟨rfl, by go_grown⟩

set_option maxHeartbeats 1000000 in
theorem errno_err (b : Nat) (n : Int) (w : World) (hg : HasET w) (hn : w.cell? ⟨b, 1, none⟩ = some (.int .i64 n)) :
    Calls Tryz.prog 58 #[.iface 138 (.pointer (some ⟨b, 0, none⟩))] w fun e w' => e = .returned (.int .i64 n) ∧ Below w.heap.size w w' := by
  have hb := cell_lt hn
  have hlt := hg.lt
  have hg' := hg
  unfold HasET at hg
  have h1 : (w.alloc (.cells #[.int .i64 0] 32)).cell? ⟨0, 0, none⟩ = some (.iface 214 (.agg #[.pointer (some ⟨5, 112, none⟩)])) := by
    rw [World.cell?_alloc_lt _ _ ⟨0, 0, none⟩ hlt]; exact hg
  have h2 : (w.alloc (.cells #[.int .i64 0] 32)).cell? ⟨b, 1, none⟩ = some (.int .i64 n) := by
    rw [World.cell?_alloc_lt _ _ ⟨b, 1, none⟩ hb]; exact hn
  have h3 : (w.alloc (.cells #[.int .i64 0] 32)).cell? ⟨w.heap.size, 0, none⟩ = some (.int .i64 0) := by simp
  have h4 : (w.alloc (.cells #[.int .i64 0] 32)).frozen? ⟨w.heap.size, 0, none⟩ = false := by simp
  have H := as_hit b w.heap.size n _ _ h1 h2 h3 h4
  have HH := Lib.hid H
  clear H h1 h2 h3 h4 hg hn hg'
  go_enter Tryz.func58, Tryz.ntmps58
  go_wp2_with (first | (go_at_call 86; refine HH.out.mono ?_; rintro e w' ⟨rfl, rfl⟩))
  go_ret
  exact ⟨rfl, by go_grown⟩
end Go.Proofs.YtocmjlnhcloccaaGreatDoor
