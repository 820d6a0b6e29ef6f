/-
  The numbers of bytes, one behind the other, each with where it begins: no program.
-/
import Derived.Test.YtkjdhkpnbgflhaaORNum
namespace Go.Proofs.Ytkjdhkpnbgflhaa
open Go.RowKit

def eachGo : Nat → List UInt8 → Nat → List (Nat × Nat)
  | 0, _, _ => []
  | f + 1, l, i => match readN (l.drop i) with | some (n, k) => (i, n) :: eachGo f l (i + k) | none => []
def eachW (l : List UInt8) (i : Nat) : List (Nat × Nat) := eachGo (l.length + 1 - i) l i
theorem readN_in {l : List UInt8} {i n k : Nat} (h : readN (l.drop i) = some (n, k)) : i < l.length ∧ 1 ≤ k ∧ i + k ≤ l.length ∧ n < 18446744073709551616 := by
  have h1 := readN_lt h
  rw [List.length_drop] at h1
  omega
theorem eachGo_fuel (l : List UInt8) : ∀ (f g i : Nat), l.length < f + i → l.length < g + i → eachGo f l i = eachGo g l i := by
  intro f
  induction f with
  | zero =>
    intro g i hf hg
    have hd : l.drop i = [] := List.drop_eq_nil_of_le (by omega)
    cases g with
    | zero => rfl
    | succ g => simp [eachGo, hd, readN]
  | succ f ih =>
    intro g i hf hg
    cases g with
    | zero =>
      have hd : l.drop i = [] := List.drop_eq_nil_of_le (by omega)
      simp [eachGo, hd, readN]
    | succ g =>
      unfold eachGo
      cases h : readN (l.drop i) with
      | none => rfl
      | some x =>
        obtain ⟨n, k⟩ := x
        have h1 := readN_in h
        simp only
        rw [ih g (i + k) (by omega) (by omega)]
theorem eachW_none {l : List UInt8} {i : Nat} (h : readN (l.drop i) = none) : eachW l i = [] := by
  unfold eachW
  cases hf : l.length + 1 - i with
  | zero => rfl
  | succ f => simp [eachGo, h]
theorem eachW_some {l : List UInt8} {i n k : Nat} (h : readN (l.drop i) = some (n, k)) : eachW l i = (i, n) :: eachW l (i + k) := by
  have h1 := readN_in h
  unfold eachW
  obtain ⟨f, hf⟩ : ∃ f, l.length + 1 - i = f + 1 := ⟨l.length - i, by omega⟩
  rw [hf]
  show (match readN (l.drop i) with | some (n, k) => (i, n) :: eachGo f l (i + k) | none => []) = _
  rw [h]
  simp only
  rw [eachGo_fuel l f (l.length + 1 - (i + k)) (i + k) (by omega) (by omega)]
theorem pre_next {l : List UInt8} {pre : List (Nat × Nat)} {i n k : Nat} (h : readN (l.drop i) = some (n, k)) (hp : pre ++ eachW l i = eachW l 0) : (pre ++ [(i, n)]) ++ eachW l (i + k) = eachW l 0 := by
  rw [← hp, eachW_some h, List.append_assoc]
  rfl
theorem eachW_len (l : List UInt8) : ∀ i, i ≤ l.length → (eachW l i).length ≤ l.length - i := by
  suffices ∀ m i, i ≤ l.length → l.length - i ≤ m → (eachW l i).length ≤ l.length - i from fun i hi => this _ i hi (Nat.le_refl _)
  intro m
  induction m with
  | zero =>
    intro i hi hm
    have hd : l.drop i = [] := List.drop_eq_nil_of_le (by omega)
    rw [eachW_none (by rw [hd]; rfl)]
    simp
  | succ m ih =>
    intro i hi hm
    cases h : readN (l.drop i) with
    | none => rw [eachW_none h]; simp
    | some x =>
      obtain ⟨n, k⟩ := x
      have h1 := readN_in h
      have h2 := ih (i + k) (by omega) (by omega)
      rw [eachW_some h, List.length_cons]
      omega
end Go.Proofs.Ytkjdhkpnbgflhaa
