/-
  A world that holds what the rows list.
-/
import Derived.Test.YtfhicjdfmlgiaaaGreatDoorLaid
namespace Go.Proofs.YtfhicjdfmlgiaaaGreatDoor
open Go.ChangeShapes Go.WideShapes Go.ChangeAt Go.RowKit

def litsOf : DataW Unit → Array Value
  | .agg l => (l.map fun | .lit (.int k n) => Value.int k n | _ => .nilIface).toArray
  | _ => #[]
def layCells (c : Array Value) : Obj → Obj
  | .cells _ t frozen => .cells c t frozen
  | o => o
noncomputable def laidWorld (os : Os) : World :=
  { World.holding Tryz.prog os ⟨#[], #[], []⟩ with heap := ((((World.holding Tryz.prog os ⟨#[], #[], []⟩).heap.modify 0 (layCells #[.iface 140 (.agg #[.pointer (some ⟨5, 57, none⟩)])])).modify 1 (layCells (litsOf Rows.laid_internal_strconv_uint64pow10))).modify 3 (layCells (litsOf Rows.laid_math_bits_deBruijn32tab))).modify 4 (layCells (litsOf Rows.laid_math_bits_deBruijn64tab)) }
set_option maxRecDepth 100000 in
theorem laidWorld_met (os : Os) (args : Array Value) : laidMetH Tryz.prog laidAll ((laidWorld os).forCall (fun _ _ => 0) ⟨#[], args, []⟩).memory :=
  laidMetH_of_parts (laidMet_of_run' 8 (by kernel_rfl) (by kernel_rfl)) (by kernel_rfl)
end Go.Proofs.YtfhicjdfmlgiaaaGreatDoor
