/-
  Conversions: what a value of one type is as one of another. No program but the values' forms.
-/
import Derived.Test.YtmgeefhacnadcaaGreatDoorVBet0
namespace Go.Proofs.YtmgeefhacnadcaaGreatDoor
open Go.RowKit

theorem ba_eq {s t : ByteArray} (h : s.toList = t.toList) : s = t := by
  rw [ByteArray.toList_eq, ByteArray.toList_eq] at h
  obtain ⟨⟨l⟩⟩ := s
  obtain ⟨⟨m⟩⟩ := t
  simp at h
  subst h
  rfl
theorem chk_forms {v : Vl} (h : v.chk = 0) : v = v0N ∨ (∃ i, v = ⟨1, i, 0, ⟨#[]⟩⟩) ∨ (∃ u, v = ⟨2, 0, u, ⟨#[]⟩⟩) ∨ v = ⟨3, 0, 0, ⟨#[]⟩⟩ ∨ v = ⟨3, 1, 0, ⟨#[]⟩⟩ ∨ (∃ s, v = ⟨4, 0, 0, s⟩ ∧ (s.size : Int) ≤ 200) := by
  obtain ⟨k, i, u, s⟩ := v
  have hc : chk k i u s = 0 := h
  by_cases hk : k < 0 ∨ 4 < k
  · unfold chk at hc
    rw [if_pos hk] at hc
    cases hc
  obtain ⟨h1, h2, _⟩ | ⟨_, _, h3⟩ | ⟨_, h3⟩ := chk_of hc hk
  · unfold vEqB at h1
    simp only [Bool.and_eq_true, beq_iff_eq] at h1
    obtain ⟨_, e1, e2, e3⟩ := h1
    have e3 := ba_eq e3
    rcases kinds_cases k with hk' | rfl | rfl | rfl | rfl | rfl
    · exact absurd hk' hk
    · have e1 : i = 0 := e1
      have e2 : u = 0 := e2
      have e3 : s = ⟨#[]⟩ := e3
      subst e1 e2 e3
      exact .inl rfl
    · have e2 : u = 0 := e2
      have e3 : s = ⟨#[]⟩ := e3
      subst e2 e3
      exact .inr (.inl ⟨_, rfl⟩)
    · have e1 : i = 0 := e1
      have e3 : s = ⟨#[]⟩ := e3
      subst e1 e3
      exact .inr (.inr (.inl ⟨_, rfl⟩))
    · have e2 : u = 0 := e2
      have e3 : s = ⟨#[]⟩ := e3
      subst e2 e3
      have e1 : i = bits BinOp.and .i64 i 1 := e1
      by_cases i0 : i = 0
      · subst i0; exact .inr (.inr (.inr (.inl rfl)))
      · by_cases i1 : i = 1
        · subst i1; exact .inr (.inr (.inr (.inr (.inl rfl))))
        · exact absurd e1.symm (and_one i i0 i1)
    · have e1 : i = 0 := e1
      have e2 : u = 0 := e2
      subst e1 e2
      exact .inr (.inr (.inr (.inr (.inr ⟨_, rfl, h2⟩))))
  · cases h3
  · cases h3

theorem wrapU {n : Int} (h0 : 0 ≤ n) (h1 : n ≤ 18446744073709551615) : IntKind.u64.wrap n = n := by
  have h : n % 18446744073709551616 = n := Int.emod_eq_of_lt h0 (by omega)
  simp [IntKind.wrap, IntKind.signed, IntKind.bits, h]
theorem wrapI {n : Int} (h0 : 0 ≤ n) (h1 : n ≤ 9223372036854775807) : IntKind.i64.wrap n = n := by
  have h : n % 18446744073709551616 = n := Int.emod_eq_of_lt h0 (by omega)
  simp [IntKind.wrap, IntKind.signed, IntKind.bits, h]
  omega
/-- is there a way between two types (of the four)? -/
def wayB (a b : Int) : Bool := !((a == 3 && b == 4) || (a == 4 && b == 3))
/-- a value that is not null of one type as one of another; none: it is none -/
def turnO (a b : Int) (v : Vl) : Option Vl :=
  if a = b then some v
  else if b = 4 then some ⟨4, 0, 0, ⟨(if a = 1 then Lib.itoa v.i else Lib.decDigits v.u.toNat).toArray⟩⟩
  else if a = 4 then (if b = 1 then (sgnOf v.s.data.toList).map (fun n => ⟨1, n, 0, ⟨#[]⟩⟩) else (numOf M64 v.s.data.toList).map (fun n => ⟨2, 0, n, ⟨#[]⟩⟩))
  else if b = 1 then (if a = 2 then (if v.u ≤ 9223372036854775807 then some ⟨1, v.u, 0, ⟨#[]⟩⟩ else none) else some ⟨1, v.i, 0, ⟨#[]⟩⟩)
  else if b = 2 then (if 0 ≤ v.i then some ⟨2, 0, v.i, ⟨#[]⟩⟩ else none)
  else (if (if a = 2 then v.u else v.i) = 0 ∨ (if a = 2 then v.u else v.i) = 1 then some ⟨3, (if a = 2 then v.u else v.i), 0, ⟨#[]⟩⟩ else none)
/-- what a value is converted to, or an error's number -/
def cvO (c d : Col) (v : Vl) : Int × Vl :=
  if colOk c = false ∨ colOk d = false then (2, v0N)
  else if fitN c v ≠ 0 then (fitN c v, v0N)
  else if wayB c.t d.t = false then (160, v0N)
  else if v.k = 0 then (if fitN d v = 0 then (0, v) else (161, v0N))
  else match turnO c.t d.t v with
    | none => (161, v0N)
    | some x => if fitN d x = 0 then (0, x) else (161, v0N)
theorem fit_chk0 {c : Col} {v : Vl} (h : fitN c v = 0) : v.chk = 0 := by
  unfold fitN at h
  split at h
  · rename_i h0; exact absurd h h0
  · rename_i h0; exact Classical.byContradiction h0
theorem fit_kind {c : Col} {v : Vl} (h : fitN c v = 0) (hk : v.k ≠ 0) : v.k = c.t := by
  unfold fitN at h
  by_cases h0 : v.chk ≠ 0
  · rw [if_pos h0] at h
    exact absurd h h0
  · rw [if_neg h0, if_neg hk] at h
    by_cases h1 : v.k ≠ c.t
    · rw [if_pos h1] at h
      cases h
    · exact Classical.byContradiction h1
theorem col_types {c : Col} (h : colOk c = true) : c.t = 1 ∨ c.t = 2 ∨ c.t = 3 ∨ c.t = 4 := by
  unfold colOk at h
  rw [Bool.and_eq_true] at h
  have h1 := h.1
  unfold szOk at h1
  split at h1
  · omega
  · split at h1
    · omega
    · split at h1
      · omega
      · cases h1
end Go.Proofs.YtmgeefhacnadcaaGreatDoor
