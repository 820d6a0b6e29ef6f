/-
  log, pure: the bytes of the record that begins at a position, going there from the first one on.
-/
import Derived.Test.YtbhgcioeibhjeaaDoorLWlk
namespace Go.Proofs.YtbhgcioeibhjeaaDoor
open Go.RowKit

def atP (p : Int) (x : Nat × List UInt8) : Bool := decide (p ≤ (x.1 : Int))
def findO (l : List UInt8) (p : Int) : Option (List UInt8) := match (walkW l.length (pieceO l) 0).find? (atP p) with
  | some x => if (x.1 : Int) = p then some x.2 else none
  | none => none
theorem find_hit {xs ys : List (Nat × List UInt8)} {x : Nat × List UInt8} {p : Int} (h : ys ++ [x] <+: xs) (hy : ∀ y ∈ ys, (y.1 : Int) < p) (hx : p ≤ (x.1 : Int)) : xs.find? (atP p) = some x := by
  obtain ⟨zs, rfl⟩ := h
  rw [List.append_assoc, List.find?_append]
  have h0 : ys.find? (atP p) = none := by
    rw [List.find?_eq_none]
    intro y hm
    have := hy y hm
    simp only [atP, decide_eq_true_eq]
    omega
  rw [h0]
  simp [atP, hx]
theorem findO_hit {l : List UInt8} {ys : List (Nat × List UInt8)} {x : Nat × List UInt8} {p : Int} (h : ys ++ [x] <+: walkW l.length (pieceO l) 0) (hy : ∀ y ∈ ys, (y.1 : Int) < p) (hx : (x.1 : Int) = p) : findO l p = some x.2 := by
  unfold findO
  rw [find_hit h hy (by omega)]
  simp [hx]
theorem findO_over {l : List UInt8} {ys : List (Nat × List UInt8)} {x : Nat × List UInt8} {p : Int} (h : ys ++ [x] <+: walkW l.length (pieceO l) 0) (hy : ∀ y ∈ ys, (y.1 : Int) < p) (hx : p < (x.1 : Int)) : findO l p = none := by
  unfold findO
  rw [find_hit h hy (by omega)]
  have : ¬ ((x.1 : Int) = p) := by omega
  simp [this]
theorem findO_end {l : List UInt8} {p : Int} (hy : ∀ y ∈ walkW l.length (pieceO l) 0, (y.1 : Int) < p) : findO l p = none := by
  unfold findO
  have h0 : (walkW l.length (pieceO l) 0).find? (atP p) = none := by
    rw [List.find?_eq_none]
    intro y hm
    have := hy y hm
    simp only [atP, decide_eq_true_eq]
    omega
  rw [h0]
theorem findO_mem {l b : List UInt8} {p : Int} (h : findO l p = some b) : ∃ i : Nat, p = i ∧ (i, b) ∈ walkW l.length (pieceO l) 0 := by
  unfold findO at h
  split at h
  · rename_i x hx
    split at h
    · rename_i hp
      cases h
      exact ⟨x.1, hp.symm, List.mem_of_find?_eq_some hx⟩
    · cases h
  · cases h
theorem walkGo_step {O : Nat → Option (List UInt8)} : ∀ (f i : Nat), ∀ x ∈ walkGo O f i, O x.1 = some x.2
  | 0, _, x, hx => by simp [walkGo] at hx
  | f + 1, i, x, hx => by
    unfold walkGo at hx
    cases h : O i with
    | none => rw [h] at hx; simp at hx
    | some b =>
      rw [h] at hx
      rcases List.mem_cons.1 hx with rfl | hx
      · exact h
      · exact walkGo_step f _ x hx
theorem findO_piece {l b : List UInt8} {p : Int} (h : findO l p = some b) : ∃ i : Nat, p = i ∧ pieceO l i = some b := by
  obtain ⟨i, h1, h2⟩ := findO_mem h
  exact ⟨i, h1, walkGo_step _ _ (i, b) h2⟩
theorem pieceO_val {l b : List UInt8} {i : Nat} (h : pieceO l i = some b) : b = (l.drop (i + 8)).take b.length ∧ i + 8 + b.length ≤ l.length := by
  have hl := pieceO_len h
  refine ⟨?_, hl.2.1⟩
  unfold pieceO at h
  split at h
  · cases h
    rw [List.length_take, List.take_eq_take_min]
  · cases h
end Go.Proofs.YtbhgcioeibhjeaaDoor
