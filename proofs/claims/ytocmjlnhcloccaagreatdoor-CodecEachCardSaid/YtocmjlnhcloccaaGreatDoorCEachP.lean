/-
  codec: the rows whose bytes stand one behind the other, each with where it begins: no program.
-/
import Derived.Test.YtocmjlnhcloccaaGreatDoorCEnc
namespace Go.Proofs.YtocmjlnhcloccaaGreatDoor
open Go.RowKit

theorem readVal_pos {c : Col} {l : List UInt8} {v : Vl} {n : Nat} (h : readVal c l = some (v, n)) : 1 ≤ n ∧ n ≤ l.length := by
  have tl : ∀ (t : List UInt8) (s : List UInt8) (m : Nat), readT t = some (s, m) → m ≤ t.length := fun t s m h => by
    unfold readT at h
    split at h
    · cases h
    · split at h
      · rename_i h2
        cases h
        exact h2
      · cases h
  cases l with
  | nil => simp [readVal] at h
  | cons x t =>
    simp only [readVal] at h
    split at h
    · split at h
      · cases h; simp
      · cases h
    · split at h
      · cases h
      · split at h
        · split at h
          · cases h; simp only [List.length_cons]; omega
          · cases h
        · split at h
          · split at h
            · cases h; simp only [List.length_cons]; omega
            · cases h
          · split at h
            · split at h
              · cases h
              · split at h
                · cases h; simp
                · cases h
            · split at h
              · rename_i hs
                split at h
                · have := tl _ _ _ hs
                  cases h
                  simp only [List.length_cons]
                  omega
                · cases h
              · cases h
theorem readRow_le : ∀ (cs : List Col) (l : List UInt8) (vs : List Vl) (n : Nat), readRow cs l = some (vs, n) → cs.length ≤ n ∧ n ≤ l.length ∧ vs.length = cs.length
  | [], l, vs, n, h => by
    unfold readRow at h
    cases h
    exact ⟨Nat.le_refl _, Nat.zero_le _, rfl⟩
  | c :: cs, l, vs, n, h => by
    unfold readRow at h
    cases hv : readVal c l with
    | none => rw [hv] at h; cases h
    | some x =>
      obtain ⟨v, k⟩ := x
      rw [hv] at h
      simp only at h
      cases hr : readRow cs (l.drop k) with
      | none => rw [hr] at h; cases h
      | some y =>
        obtain ⟨ws, m⟩ := y
        rw [hr] at h
        simp only [Option.some.injEq, Prod.mk.injEq] at h
        obtain ⟨rfl, rfl⟩ := h
        have h1 := readVal_pos hv
        have h2 := readRow_le cs _ ws m hr
        rw [List.length_drop] at h2
        simp only [List.length_cons]
        omega
def rowsGo (cs : List Col) (l : List UInt8) : Nat → Nat → List (Nat × List Vl)
  | 0, _ => []
  | f + 1, i => match readRow cs (l.drop i) with
    | some (vs, k) => (i, vs) :: rowsGo cs l f (i + k)
    | none => []
def rowsW (cs : List Col) (l : List UInt8) (i : Nat) : List (Nat × List Vl) := rowsGo cs l (l.length + 1 - i) i
theorem rowsGo_fuel {cs : List Col} (hc : cs ≠ []) (l : List UInt8) : ∀ (f g i : Nat), l.length < f + i → l.length < g + i → rowsGo cs l f i = rowsGo cs l g i := by
  have hc0 : 1 ≤ cs.length := by cases cs with
    | nil => exact absurd rfl hc
    | cons c cs => simp
  have hn : ∀ i, l.length < i → readRow cs (l.drop i) = none := fun i hi => by
    rw [List.drop_eq_nil_of_le (by omega)]
    cases h : readRow cs [] with
    | none => rfl
    | some x =>
      obtain ⟨vs, k⟩ := x
      have := readRow_le cs [] vs k h
      simp only [List.length_nil] at this
      omega
  intro f
  induction f with
  | zero =>
    intro g i hf hg
    cases g with
    | zero => rfl
    | succ g =>
      unfold rowsGo
      rw [hn i (by omega)]
  | succ f ih =>
    intro g i hf hg
    cases g with
    | zero =>
      unfold rowsGo
      rw [hn i (by omega)]
    | succ g =>
      unfold rowsGo
      cases h : readRow cs (l.drop i) with
      | none => rfl
      | some x =>
        obtain ⟨vs, k⟩ := x
        have := readRow_le cs _ vs k h
        simp only
        rw [ih g (i + k) (by omega) (by omega)]
theorem rowsW_none {cs : List Col} {l : List UInt8} {i : Nat} (h : readRow cs (l.drop i) = none) : rowsW cs l i = [] := by
  unfold rowsW
  cases hf : l.length + 1 - i with
  | zero => rfl
  | succ f =>
    unfold rowsGo
    rw [h]
theorem row_in {cs : List Col} (hc : cs ≠ []) {l : List UInt8} {i k : Nat} {vs : List Vl} (h : readRow cs (l.drop i) = some (vs, k)) (hi : i ≤ l.length) : 1 ≤ k ∧ i + k ≤ l.length ∧ vs.length = cs.length := by
  have h1 := readRow_le cs _ vs k h
  rw [List.length_drop] at h1
  have hc0 : 1 ≤ cs.length := by cases cs with
    | nil => exact absurd rfl hc
    | cons c cs => simp
  omega
theorem rowsW_some {cs : List Col} (hc : cs ≠ []) {l : List UInt8} {i k : Nat} {vs : List Vl} (h : readRow cs (l.drop i) = some (vs, k)) (hi : i ≤ l.length) : rowsW cs l i = (i, vs) :: rowsW cs l (i + k) := by
  have h1 := row_in hc h hi
  unfold rowsW
  rw [show l.length + 1 - i = (l.length - i) + 1 by omega]
  conv => lhs; unfold rowsGo
  rw [h]
  simp only
  rw [rowsGo_fuel hc l (l.length - i) (l.length + 1 - (i + k)) (i + k) (by omega) (by omega)]
theorem rows_next {cs : List Col} (hc : cs ≠ []) {l : List UInt8} {pre : List (Nat × List Vl)} {i k : Nat} {vs : List Vl} (h : readRow cs (l.drop i) = some (vs, k)) (hi : i ≤ l.length) (hp : pre ++ rowsW cs l i = rowsW cs l 0) : (pre ++ [(i, vs)]) ++ rowsW cs l (i + k) = rowsW cs l 0 := by
  rw [← hp, rowsW_some hc h hi, List.append_assoc]
  rfl
/-- each row begins behind the one ahead: so there are no more than bytes -/
theorem rowsW_len {cs : List Col} (hc : cs ≠ []) (l : List UInt8) : ∀ (m i : Nat), i ≤ l.length → l.length - i ≤ m → (rowsW cs l i).length ≤ l.length - i := by
  intro m
  induction m with
  | zero =>
    intro i hi hm
    cases h : readRow cs (l.drop i) with
    | none => rw [rowsW_none h]; simp
    | some x =>
      obtain ⟨vs, k⟩ := x
      have := row_in hc h hi
      omega
  | succ m ih =>
    intro i hi hm
    cases h : readRow cs (l.drop i) with
    | none => rw [rowsW_none h]; simp
    | some x =>
      obtain ⟨vs, k⟩ := x
      have h1 := row_in hc h hi
      rw [rowsW_some hc h hi]
      have := ih (i + k) (by omega) (by omega)
      simp only [List.length_cons]
      omega
theorem rowsGo_cols (cs : List Col) (l : List UInt8) (hc : cs.length ≤ 1000) : ∀ (f i : Nat) (x : Nat × List Vl), x ∈ rowsGo cs l f i → x.2.length ≤ 1000
  | 0, _, _, h => by simp [rowsGo] at h
  | f + 1, i, x, h => by
    unfold rowsGo at h
    cases hr : readRow cs (l.drop i) with
    | none => rw [hr] at h; simp at h
    | some y =>
      obtain ⟨vs, k⟩ := y
      rw [hr] at h
      simp only at h
      rcases List.mem_cons.1 h with rfl | h
      · have := (readRow_le cs _ vs k hr).2.2
        simp only
        omega
      · exact rowsGo_cols cs l hc f _ x h
theorem rowsW_cols (cs : List Col) (l : List UInt8) (i : Nat) (x : Nat × List Vl) (h : x ∈ rowsW cs l i) (hc : cs.length ≤ 1000) : x.2.length ≤ 1000 := rowsGo_cols cs l hc _ _ x h
end Go.Proofs.YtocmjlnhcloccaaGreatDoor
