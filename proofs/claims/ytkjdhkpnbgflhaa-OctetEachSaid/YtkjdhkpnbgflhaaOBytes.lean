/-
  A slice of bytes, nil or not, in memory.
-/
import Derived.Test.YtkjdhkpnbgflhaaOFixed
import Derived.Carry
namespace Go.Proofs.Ytkjdhkpnbgflhaa
open Go.RowKit

/-- a slice of bytes, nil or not -/
def BytesOf (w : World) (v : Value) (l : List UInt8) : Prop := (v = .slice none 0 0 ∧ l = []) ∨ ∃ a cap, v = .slice (some a) l.length cap ∧ l.length ≤ cap ∧ ∀ (j : Nat) (h : j < l.length), w.cell? (a.add j) = some (.int .u8 (l[j].toNat : Int))
theorem BytesOf.at {w : World} {v : Value} {l : List UInt8} (h : BytesOf w v l) : BytesAt w v l := by
  rcases h with ⟨rfl, rfl⟩ | ⟨a, cap, rfl, hl, hc⟩
  · exact bytes_nil w
  · exact ⟨some a, cap, rfl, hl, fun j hj => ⟨a, rfl, hc j hj⟩⟩
theorem BytesOf.keep {w w' : World} {v : Value} {l : List UInt8} {B : Nat} (h : BytesOf w v l) (hb : Below B w w') (hB : w.heap.size ≤ B) : BytesOf w' v l := by
  rcases h with ⟨rfl, rfl⟩ | ⟨a, cap, rfl, hl, hc⟩
  · exact .inl ⟨rfl, rfl⟩
  · exact .inr ⟨a, cap, rfl, hl, fun j hj => by rw [hb.cell (by have := World.block_lt_of_cell? w _ (hc j hj); omega)]; exact hc j hj⟩
end Go.Proofs.Ytkjdhkpnbgflhaa
