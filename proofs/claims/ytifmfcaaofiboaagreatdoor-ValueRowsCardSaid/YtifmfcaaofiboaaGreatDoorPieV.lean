/-
  value, pure: the values of a text's pieces, up to the first that is none.
-/
import Derived.Test.YtifmfcaaofiboaaGreatDoorPieP
import Derived.Test.YtifmfcaaofiboaaGreatDoorFew
import Derived.Test.YtifmfcaaofiboaaGreatDoorVPrs
namespace Go.Proofs.YtifmfcaaofiboaaGreatDoor
open Go.RowKit

/-- the value of a piece -/
def valO (b : List UInt8) : Option Vl := if (readOf b).ok = false then none else if chk (readOf b).k (readOf b).i (readOf b).u (readOf b).v = 0 then some ⟨(readOf b).k, (readOf b).i, (readOf b).u, (readOf b).v⟩ else none
def partsW : List (Nat × List UInt8) → List (Nat × Vl)
  | [] => []
  | x :: r => match valO x.2 with
    | some v => (x.1, v) :: partsW r
    | none => []
def AllV (l : List (Nat × List UInt8)) : Prop := ∀ x ∈ l, (valO x.2).isSome
theorem parts_append : ∀ {pre : List (Nat × List UInt8)} (l : List (Nat × List UInt8)), AllV pre → partsW (pre ++ l) = partsW pre ++ partsW l
  | [], _, _ => rfl
  | x :: r, l, h => by
    have hx := h x (by simp)
    obtain ⟨v, hv⟩ := Option.isSome_iff_exists.1 hx
    have ih := parts_append (pre := r) l (fun y hy => h y (by simp [hy]))
    simp only [List.cons_append, partsW, hv, ih]
theorem allV_snoc {pre : List (Nat × List UInt8)} {x : Nat × List UInt8} {v : Vl} (h : AllV pre) (hv : valO x.2 = some v) : AllV (pre ++ [x]) := fun y hy => by
  rcases List.mem_append.1 hy with hy | hy
  · exact h y hy
  · rw [List.mem_singleton.1 hy, hv]; rfl
theorem parts_snoc {pre : List (Nat × List UInt8)} {i : Nat} {b : List UInt8} {v : Vl} (h : AllV pre) (hv : valO b = some v) : partsW (pre ++ [(i, b)]) = partsW pre ++ [(i, v)] := by
  rw [parts_append _ h]
  simp only [partsW, hv]
theorem parts_pre {pre all : List (Nat × List UInt8)} {i : Nat} {b : List UInt8} {v : Vl} (h : AllV pre) (hv : valO b = some v) (hp : pre ++ [(i, b)] <+: all) : partsW pre ++ [(i, v)] <+: partsW all := by
  obtain ⟨q, rfl⟩ := hp
  rw [parts_append (pre := pre ++ [(i, b)]) q (allV_snoc h hv), parts_snoc h hv]
  exact List.prefix_append _ _
theorem parts_stop {pre all : List (Nat × List UInt8)} {i : Nat} {b : List UInt8} (h : AllV pre) (hv : valO b = none) (hp : pre ++ [(i, b)] <+: all) : partsW pre = partsW all := by
  obtain ⟨q, rfl⟩ := hp
  rw [List.append_assoc, parts_append _ h]
  simp only [List.singleton_append, partsW, hv, List.append_nil]
theorem pieGo_len : ∀ (f k : Nat) (s : List UInt8) (x : Nat × List UInt8), x ∈ pieGo f k s → x.2.length ≤ s.length
  | 0, _, _, _, h => by simp [pieGo] at h
  | f + 1, k, s, x, h => by
    unfold pieGo at h
    rcases List.mem_cons.1 h with rfl | h
    · exact cut_piece_le s
    · split at h
      · exact Nat.le_trans (pieGo_len f (k + 1) _ x h) (cut_rest_le s)
      · cases h
/-- what value.parse says of a piece -/
theorem valO_some {b : List UInt8} {v : Vl} {w : World} {e : Ending} {w' : World} (hv : valO b = some v) (h : ParsePost (readOf b) w e w') : e = .returned (.tuple #[v.val, .nilIface]) ∧ Below w.heap.size w w' := by
  unfold valO at hv
  unfold ParsePost at h
  split at hv
  · cases hv
  · rename_i h0
    split at hv
    · rename_i h1
      rw [if_neg h0, if_pos h1] at h
      cases hv
      exact h
    · cases hv
theorem valO_none {b : List UInt8} {w : World} {e : Ending} {w' : World} (hv : valO b = none) (h : ParsePost (readOf b) w e w') : ∃ n, IsErr2 n zeroV w e w' := by
  unfold valO at hv
  unfold ParsePost at h
  split at hv
  · rename_i h0
    rw [if_pos h0] at h
    exact ⟨_, h⟩
  · rename_i h0
    split at hv
    · cases hv
    · rename_i h1
      rw [if_neg h0, if_neg h1] at h
      exact ⟨_, h⟩
end Go.Proofs.YtifmfcaaofiboaaGreatDoor
