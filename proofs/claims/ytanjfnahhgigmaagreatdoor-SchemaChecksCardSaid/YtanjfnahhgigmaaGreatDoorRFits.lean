/-
  swingbridgeref03.Fits answers as schema.Fits: 'fitsN'.
-/
import Derived.Test.YtanjfnahhgigmaaGreatDoorSFits
import Derived.Test.YtanjfnahhgigmaaGreatDoorBelowQ
namespace Go.Proofs.YtanjfnahhgigmaaGreatDoor
open Go.RowKit

theorem least_most {z : Int} (h : numSz z = true) : IntKind.i64.wrap (leastI z + 1) = leastI z + 1 ∧ IntKind.i64.wrap (-(leastI z + 1)) = mostI z := by
  rcases numSz_cases h with rfl | rfl | rfl | rfl <;> exact ⟨rfl, rfl⟩
end Go.Proofs.YtanjfnahhgigmaaGreatDoor
