/-
  log, pure: the records from a place on, where one begins there; what is told of them.
-/
import Derived.Test.YtbhgcioeibhjeaaGreatDoorLFnd
namespace Go.Proofs.YtbhgcioeibhjeaaGreatDoor
open Go.RowKit

def endF (i : Nat) (xs : List (Nat × List UInt8)) : Nat := xs.foldl (fun _ x => x.1 + 8 + x.2.length) i
theorem endF_snoc (i : Nat) (xs : List (Nat × List UInt8)) (x : Nat × List UInt8) : endF i (xs ++ [x]) = x.1 + 8 + x.2.length := by simp [endF]
theorem endF_cons (i : Nat) (x : Nat × List UInt8) (xs : List (Nat × List UInt8)) : endF i (x :: xs) = endF (x.1 + 8 + x.2.length) xs := rfl
theorem endF_go {n : Nat} {O : Nat → Option (List UInt8)} (hO : StepOk n O) : ∀ (f i : Nat), n < f + i → O (endF i (walkGo O f i)) = none
  | 0, i, h => by
    cases hi : O i with
    | none => exact hi
    | some b => have := hO i b hi; omega
  | f + 1, i, h => by
    unfold walkGo
    cases hi : O i with
    | none => exact hi
    | some b =>
      have := hO i b hi
      simp only
      rw [endF_cons]
      exact endF_go hO f _ (by simp only; omega)
theorem endF_walk {n : Nat} {O : Nat → Option (List UInt8)} (hO : StepOk n O) (i : Nat) : O (endF i (walkW n O i)) = none := by
  unfold walkW
  by_cases h : i ≤ n
  · exact endF_go hO _ _ (by omega)
  · rw [show n + 1 - i = 0 by omega]
    exact endF_go hO 0 i (by omega)
theorem findO_endW (l : List UInt8) (i : Nat) : findO l (endF i (walkW l.length (pieceO l) i) : Nat) = none := by
  cases h : findO l (endF i (walkW l.length (pieceO l) i) : Nat) with
  | none => rfl
  | some b =>
    obtain ⟨j, hj, hp⟩ := findO_piece h
    have e : endF i (walkW l.length (pieceO l) i) = j := by omega
    rw [← e, endF_walk (step_piece l)] at hp
    cases hp
theorem endF_mem {n : Nat} {O : Nat → Option (List UInt8)} (hO : StepOk n O) {i : Nat} (hi : i ≤ n) {pre : List (Nat × List UInt8)} (h : pre <+: walkW n O i) : endF i pre ≤ n := by
  rcases List.eq_nil_or_concat pre with rfl | ⟨ys, y, rfl⟩
  · exact hi
  · rw [List.concat_eq_append] at h ⊢
    rw [endF_snoc]
    obtain ⟨q, hq⟩ := h
    exact walkW_mem hO _ i y (show y ∈ walkW n O i by rw [← hq]; simp)
/-- the records that are told -/
def RL (l : List UInt8) (i : Nat) : List (Nat × List UInt8) := if (findO l i).isSome then walkW l.length (pieceO l) i else []
/-- a record, and the bytes that stand for it -/
def tagW (oa : Option Addr) (x : Nat × List UInt8) : Value × (Nat × List UInt8) := (pieceV oa (x.1 + 8) x.2.length, x)
theorem tag_snd (oa : Option Addr) (xs : List (Nat × List UInt8)) : (xs.map (tagW oa)).map (·.2) = xs := by
  rw [List.map_map]
  exact List.map_id'' (fun x => rfl) xs
theorem tag_snoc (oa : Option Addr) (xs : List (Nat × List UInt8)) (x : Nat × List UInt8) : (xs ++ [x]).map (tagW oa) = xs.map (tagW oa) ++ [tagW oa x] := by simp
def encE (x : Value × (Nat × List UInt8)) : Array Value := #[.int .i64 x.2.1, x.1]
end Go.Proofs.YtbhgcioeibhjeaaGreatDoor
