/-
  schema.Fits of any column and any value: 'fitsN'.
-/
import Derived.Test.YtocmjlnhcloccaaGreatDoorSFit
namespace Go.Proofs.YtocmjlnhcloccaaGreatDoor
open Go.RowKit

/-- whether a value fits a column: an error's number -/
def fitsN (c : Col) (v : Vl) : Int := if colOk c = true then fitN c v else 2

theorem boxes2 (w : World) (A B : Obj) : Below w.heap.size w ((w.alloc A).alloc B) := ((Below.refl _ _).alloc (Nat.le_refl _) _).alloc (by simp) _
theorem heap_third (w : World) (A B M : Obj) : (((w.alloc A).alloc B).alloc M).heap[w.heap.size + 1 + 1]? = some M := by
  rw [← World.size_alloc w A, ← World.size_alloc (w.alloc A) B]
  exact heap_alloc_at _ _
end Go.Proofs.YtocmjlnhcloccaaGreatDoor
