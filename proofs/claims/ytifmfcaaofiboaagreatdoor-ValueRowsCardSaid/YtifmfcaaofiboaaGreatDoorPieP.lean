/-
  value, pure: the pieces of a text.
-/
import Derived.Test.YtifmfcaaofiboaaGreatDoorBase
import Derived.Lib.IndexMore
namespace Go.Proofs.YtifmfcaaofiboaaGreatDoor
open Go.RowKit

/-- the pieces of some bytes, each with its number -/
def pieGo : Nat → Nat → List UInt8 → List (Nat × List UInt8)
  | 0, _, _ => []
  | f + 1, k, s => (k, (Lib.cut s [44, 32]).1) :: (if (Lib.cut s [44, 32]).2.2 = true then pieGo f (k + 1) (Lib.cut s [44, 32]).2.1 else [])
def pieW (k : Nat) (s : List UInt8) : List (Nat × List UInt8) := pieGo (s.length + 1) k s
/-- what is left -/
def pieR (more : Bool) (k : Nat) (s : List UInt8) : List (Nat × List UInt8) := if more = true then pieW k s else []
theorem cut_less {s : List UInt8} (h : (Lib.cut s [44, 32]).2.2 = true) : (Lib.cut s [44, 32]).2.1.length < s.length := by
  unfold Lib.cut at h ⊢
  split at h
  · rename_i h0
    rw [if_pos h0]
    have hne : s ≠ [] := by rintro rfl; revert h0; decide
    have := List.length_pos_iff.2 hne
    simp only [List.length_drop, List.length_cons, List.length_nil]
    omega
  · cases h
theorem cut_rest_le (s : List UInt8) : (Lib.cut s [44, 32]).2.1.length ≤ s.length := by
  unfold Lib.cut
  split
  · simp only [List.length_drop]; omega
  · simp
theorem cut_piece_le (s : List UInt8) : (Lib.cut s [44, 32]).1.length ≤ s.length := by
  unfold Lib.cut
  split
  · simp only [List.length_take]; omega
  · exact Nat.le_refl _
theorem pieGo_fuel : ∀ (f g k : Nat) (s : List UInt8), s.length < f → s.length < g → pieGo f k s = pieGo g k s
  | 0, _, _, _, h, _ => by omega
  | _ + 1, 0, _, _, _, h => by omega
  | f + 1, g + 1, k, s, hf, hg => by
    unfold pieGo
    by_cases h : (Lib.cut s [44, 32]).2.2 = true
    · have := cut_less h
      rw [if_pos h, if_pos h, pieGo_fuel f g (k + 1) _ (by omega) (by omega)]
    · rw [if_neg h, if_neg h]
theorem pieR_true (k : Nat) (s : List UInt8) : pieR true k s = (k, (Lib.cut s [44, 32]).1) :: pieR (Lib.cut s [44, 32]).2.2 (k + 1) (Lib.cut s [44, 32]).2.1 := by
  unfold pieR
  rw [if_pos rfl]
  conv => lhs; unfold pieW pieGo
  by_cases h : (Lib.cut s [44, 32]).2.2 = true
  · have := cut_less h
    rw [if_pos h, if_pos h, pieGo_fuel _ ((Lib.cut s [44, 32]).2.1.length + 1) (k + 1) _ (by omega) (by omega)]
    rfl
  · rw [if_neg h, if_neg h]
theorem pieR_next {k : Nat} {s : List UInt8} {pre l : List (Nat × List UInt8)} (h : pre ++ pieR true k s = l) : (pre ++ [(k, (Lib.cut s [44, 32]).1)]) ++ pieR (Lib.cut s [44, 32]).2.2 (k + 1) (Lib.cut s [44, 32]).2.1 = l := by
  rw [List.append_assoc, List.singleton_append, ← pieR_true]
  exact h
/-- how much there is to do -/
def muPie : Value → Value → Nat
  | .string t, .bool true => t.size + 1
  | _, _ => 0
theorem muPie_true (t : ByteArray) : muPie (.string t) (.bool true) = t.size + 1 := rfl
theorem muPie_less {s : List UInt8} : muPie (.string ⟨(Lib.cut s [44, 32]).2.1.toArray⟩) (.bool (Lib.cut s [44, 32]).2.2) < s.length + 1 := by
  cases h : (Lib.cut s [44, 32]).2.2 with
  | false => exact Nat.succ_pos _
  | true =>
    have := cut_less h
    rw [muPie_true]
    simp only [ByteArray.size, List.size_toArray]
    omega
end Go.Proofs.YtifmfcaaofiboaaGreatDoor
