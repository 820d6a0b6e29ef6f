/-
  swingbridgelaw03.few and short.
-/
import Derived.Test.YtocmjlnhcloccaaGreatDoorSSch
namespace Go.Proofs.YtocmjlnhcloccaaGreatDoor
open Go.RowKit

def namesTo (l : List Col) (k : Nat) : Bool := (List.range k).all fun i => decide ((l.getD i col0).n.size ≤ 40)
def placesTo (l : List (List Int)) (k : Nat) : Bool := (List.range k).all fun i => decide ((l.getD i []).length ≤ 8)
/-- is a schema no more than is looked at? -/
def fewOk (S : Sch) : Bool := (decide (S.cols.length ≤ 12) && (decide (S.key.length ≤ 8) && decide (S.uqs.length ≤ 6))) && (namesTo S.cols S.cols.length && placesTo S.uqs S.uqs.length)
theorem fewOk_spec {S : Sch} (h : fewOk S = true) : S.few := by
  unfold fewOk namesTo placesTo at h
  simp only [Bool.and_eq_true, decide_eq_true_eq, List.all_eq_true, List.mem_range] at h
  refine ⟨h.1.1, fun c hc => ?_, h.1.2.1, h.1.2.2, fun l hl => ?_⟩
  · obtain ⟨i, hi, rfl⟩ := List.getElem_of_mem hc
    have := h.2.1 i hi
    rwa [List.getD_eq_getElem?_getD, List.getElem?_eq_getElem hi] at this
  · obtain ⟨i, hi, rfl⟩ := List.getElem_of_mem hl
    have := h.2.2 i hi
    rwa [List.getD_eq_getElem?_getD, List.getElem?_eq_getElem hi] at this
theorem namesTo_succ (l : List Col) (k : Nat) (c : Col) (hk : k < l.length) (hc : l[k] = c) : namesTo l (k + 1) = (namesTo l k && decide (c.n.size ≤ 40)) := by
  unfold namesTo
  rw [List.range_succ, List.all_append]
  have e : l.getD k col0 = c := by rw [List.getD_eq_getElem?_getD, List.getElem?_eq_getElem hk, hc]; rfl
  simp only [List.all_cons, List.all_nil, Bool.and_true]
  rw [e]
theorem namesTo_no (l : List Col) (k : Nat) (c : Col) (hk : k < l.length) (hc : l[k] = c) (h : ¬ c.n.size ≤ 40) : namesTo l l.length = false := by
  have : namesTo l (k + 1) = false := by rw [namesTo_succ l k c hk hc]; simp [h]
  unfold namesTo at *
  rw [List.all_eq_false] at *
  obtain ⟨x, hx, hp⟩ := this
  exact ⟨x, by rw [List.mem_range] at *; omega, hp⟩
theorem placesTo_succ (l : List (List Int)) (k : Nat) (c : List Int) (hk : k < l.length) (hc : l[k] = c) : placesTo l (k + 1) = (placesTo l k && decide (c.length ≤ 8)) := by
  unfold placesTo
  rw [List.range_succ, List.all_append]
  have e : l.getD k [] = c := by rw [List.getD_eq_getElem?_getD, List.getElem?_eq_getElem hk, hc]; rfl
  simp only [List.all_cons, List.all_nil, Bool.and_true]
  rw [e]
theorem placesTo_no (l : List (List Int)) (k : Nat) (c : List Int) (hk : k < l.length) (hc : l[k] = c) (h : ¬ c.length ≤ 8) : placesTo l l.length = false := by
  have : placesTo l (k + 1) = false := by rw [placesTo_succ l k c hk hc]; simp [h]
  unfold placesTo at *
  rw [List.all_eq_false] at *
  obtain ⟨x, hx, hp⟩ := this
  exact ⟨x, by rw [List.mem_range] at *; omega, hp⟩

def sizesTo (l : List Vl) (k : Nat) : Bool := (List.range k).all fun i => decide ((l.getD i val0).s.size ≤ 300)
/-- are values at most so many, of 300 bytes? -/
def shortOk (l : List Vl) (many : Nat) : Bool := decide (l.length ≤ many) && sizesTo l (min l.length (many + 1))
theorem shortOk_spec {l : List Vl} {many : Nat} (h : shortOk l many = true) : l.length ≤ many ∧ ∀ v ∈ l, v.s.size ≤ 300 := by
  unfold shortOk sizesTo at h
  simp only [Bool.and_eq_true, decide_eq_true_eq, List.all_eq_true, List.mem_range] at h
  refine ⟨h.1, fun v hv => ?_⟩
  obtain ⟨i, hi, rfl⟩ := List.getElem_of_mem hv
  have := h.2 i (by omega)
  rwa [List.getD_eq_getElem?_getD, List.getElem?_eq_getElem hi] at this
theorem sizesTo_succ (l : List Vl) (k : Nat) (c : Vl) (hk : k < l.length) (hc : l[k] = c) : sizesTo l (k + 1) = (sizesTo l k && decide (c.s.size ≤ 300)) := by
  unfold sizesTo
  rw [List.range_succ, List.all_append]
  have e : l.getD k val0 = c := by rw [List.getD_eq_getElem?_getD, List.getElem?_eq_getElem hk, hc]; rfl
  simp only [List.all_cons, List.all_nil, Bool.and_true]
  rw [e]
theorem sizesTo_no (l : List Vl) (k n : Nat) (c : Vl) (hk : k < l.length) (hn : k < n) (hc : l[k] = c) (h : ¬ c.s.size ≤ 300) : sizesTo l n = false := by
  have : sizesTo l (k + 1) = false := by rw [sizesTo_succ l k c hk hc]; simp [h]
  unfold sizesTo at *
  rw [List.all_eq_false] at *
  obtain ⟨x, hx, hp⟩ := this
  exact ⟨x, by rw [List.mem_range] at *; omega, hp⟩
end Go.Proofs.YtocmjlnhcloccaaGreatDoor
