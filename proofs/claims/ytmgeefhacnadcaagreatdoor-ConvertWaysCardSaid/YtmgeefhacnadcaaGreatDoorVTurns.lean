/-
  The ways, one by one: what the function that turns answers.
-/
import Derived.Test.YtmgeefhacnadcaaGreatDoorVPure
namespace Go.Proofs.YtmgeefhacnadcaaGreatDoor
open Go.RowKit

theorem call_in (a b : Int) (f g : Nat) (hx : (a, b, f, g) ∈ waysL) (l : Array Value) (W : World) : (callFunc f l).run Tryz.prog W = .ok (.enter f l) W := by
  simp only [waysL, List.mem_cons, List.not_mem_nil, or_false, Prod.mk.injEq] at hx
  rcases hx with ⟨rfl, rfl, rfl, rfl⟩ | ⟨rfl, rfl, rfl, rfl⟩ | ⟨rfl, rfl, rfl, rfl⟩ | ⟨rfl, rfl, rfl, rfl⟩ | ⟨rfl, rfl, rfl, rfl⟩ | ⟨rfl, rfl, rfl, rfl⟩ | ⟨rfl, rfl, rfl, rfl⟩ | ⟨rfl, rfl, rfl, rfl⟩ | ⟨rfl, rfl, rfl, rfl⟩ | ⟨rfl, rfl, rfl, rfl⟩ | ⟨rfl, rfl, rfl, rfl⟩ | ⟨rfl, rfl, rfl, rfl⟩ | ⟨rfl, rfl, rfl, rfl⟩ | ⟨rfl, rfl, rfl, rfl⟩
  all_goals kernel_rfl
/-- a value, and whether it is one -/
def Turns (f : Nat) (v : Vl) (w : World) (o : Option Vl) : Prop :=
  (∃ x : Vl, o = some x ∧ ∀ W, Below w.heap.size w W → Calls Tryz.prog f #[.agg #[.int .i64 v.k, .int .i64 v.i, .int .u64 v.u, .string v.s]] W fun e w' => e = .returned (.tuple #[.agg #[.int .i64 x.k, .int .i64 x.i, .int .u64 x.u, .string x.s], .bool true]) ∧ Below W.heap.size W w') ∨
  (o = none ∧ ∃ x : Vl, ∀ W, Below w.heap.size w W → Calls Tryz.prog f #[.agg #[.int .i64 v.k, .int .i64 v.i, .int .u64 v.u, .string v.s]] W fun e w' => e = .returned (.tuple #[.agg #[.int .i64 x.k, .int .i64 x.i, .int .u64 x.u, .string x.s], .bool false]) ∧ Below W.heap.size W w')
theorem turn_any (a b : Int) (f g : Nat) (hx : (a, b, f, g) ∈ waysL) (v : Vl) (hk : v.k = a) (hv : v.ok) (hc : v.chk = 0) (w : World) (hE : Env w) : Turns f v w (turnO a b v) := by
  obtain ⟨i0, i1, u0, u1, z⟩ := hv
  have hT : ∀ W, Below w.heap.size w W → HasTab W := fun W hb => (hE.keep hb).tab
  have hEE : ∀ W, Below w.heap.size w W → Env W := fun W hb => hE.keep hb
  simp only [waysL, List.mem_cons, List.not_mem_nil, or_false, Prod.mk.injEq] at hx
  rcases hx with ⟨rfl, rfl, rfl, rfl⟩ | ⟨rfl, rfl, rfl, rfl⟩ | ⟨rfl, rfl, rfl, rfl⟩ | ⟨rfl, rfl, rfl, rfl⟩ | ⟨rfl, rfl, rfl, rfl⟩ | ⟨rfl, rfl, rfl, rfl⟩ | ⟨rfl, rfl, rfl, rfl⟩ | ⟨rfl, rfl, rfl, rfl⟩ | ⟨rfl, rfl, rfl, rfl⟩ | ⟨rfl, rfl, rfl, rfl⟩ | ⟨rfl, rfl, rfl, rfl⟩ | ⟨rfl, rfl, rfl, rfl⟩ | ⟨rfl, rfl, rfl, rfl⟩ | ⟨rfl, rfl, rfl, rfl⟩
  · exact .inl ⟨v, rfl, fun W _ => same_any _ _ _ _ W⟩
  · by_cases h : 0 ≤ v.i
    · refine .inl ⟨⟨2, 0, v.i, ⟨#[]⟩⟩, by simp [turnO, h], fun W _ => ?_⟩
      have H := intToUint_any v.k v.i v.u v.s W
      rw [wrapU h (by omega), show decide (0 ≤ v.i) = true from decide_eq_true h] at H
      exact H
    · refine .inr ⟨by simp [turnO, h], ⟨2, 0, IntKind.u64.wrap v.i, ⟨#[]⟩⟩, fun W _ => ?_⟩
      have H := intToUint_any v.k v.i v.u v.s W
      rw [show decide (0 ≤ v.i) = false from decide_eq_false h] at H
      exact H
  · by_cases h : v.i = 0 ∨ v.i = 1
    · refine .inl ⟨⟨3, v.i, 0, ⟨#[]⟩⟩, by simp [turnO, h], fun W _ => ?_⟩
      have H := intToBool_any v.k v.i v.u v.s W
      rw [show boolRes v.i = .tuple #[.agg #[.int .i64 3, .int .i64 v.i, .int .u64 0, .string ⟨#[]⟩], .bool true] from if_pos h] at H
      exact H
    · refine .inr ⟨by simp [turnO, h], v0N, fun W _ => ?_⟩
      have H := intToBool_any v.k v.i v.u v.s W
      rw [show boolRes v.i = .tuple #[.agg #[.int .i64 0, .int .i64 0, .int .u64 0, .string ⟨#[]⟩], .bool false] from if_neg h] at H
      exact H
  · exact .inl ⟨⟨4, 0, 0, ⟨(Lib.itoa v.i).toArray⟩⟩, by simp [turnO], fun W hb => intToBytes_any _ _ _ _ W (hT W hb) i0 i1⟩
  · by_cases h : v.u ≤ 9223372036854775807
    · refine .inl ⟨⟨1, v.u, 0, ⟨#[]⟩⟩, by simp [turnO, h], fun W _ => ?_⟩
      have H := uintToInt_any v.k v.i v.u v.s W
      rw [wrapI u0 h, show decide (v.u ≤ 9223372036854775807) = true from decide_eq_true h] at H
      exact H
    · refine .inr ⟨by simp [turnO, h], ⟨1, IntKind.i64.wrap v.u, 0, ⟨#[]⟩⟩, fun W _ => ?_⟩
      have H := uintToInt_any v.k v.i v.u v.s W
      rw [show decide (v.u ≤ 9223372036854775807) = false from decide_eq_false h] at H
      exact H
  · exact .inl ⟨v, rfl, fun W _ => same_any _ _ _ _ W⟩
  · by_cases h : v.u = 0 ∨ v.u = 1
    · refine .inl ⟨⟨3, v.u, 0, ⟨#[]⟩⟩, by simp [turnO, h], fun W _ => ?_⟩
      have H := uintToBool_any v.k v.i v.u v.s W
      rw [show boolRes v.u = .tuple #[.agg #[.int .i64 3, .int .i64 v.u, .int .u64 0, .string ⟨#[]⟩], .bool true] from if_pos h] at H
      exact H
    · refine .inr ⟨by simp [turnO, h], v0N, fun W _ => ?_⟩
      have H := uintToBool_any v.k v.i v.u v.s W
      rw [show boolRes v.u = .tuple #[.agg #[.int .i64 0, .int .i64 0, .int .u64 0, .string ⟨#[]⟩], .bool false] from if_neg h] at H
      exact H
  · exact .inl ⟨⟨4, 0, 0, ⟨(Lib.decDigits v.u.toNat).toArray⟩⟩, by simp [turnO], fun W hb => uintToBytes_any _ _ _ _ W (hT W hb) u0 u1⟩
  · exact .inl ⟨⟨1, v.i, 0, ⟨#[]⟩⟩, by simp [turnO], fun W _ => boolToInt_any _ _ _ _ W⟩
  · have h : 0 ≤ v.i := by
      rcases chk_forms hc with e | ⟨i, e⟩ | ⟨u, e⟩ | e | e | ⟨s, e, _⟩ <;> rw [e] at hk ⊢ <;> first | (cases hk; done) | decide
    exact .inl ⟨⟨2, 0, v.i, ⟨#[]⟩⟩, by simp [turnO, h], fun W _ => boolToUint_any _ _ _ _ W h i1⟩
  · exact .inl ⟨v, rfl, fun W _ => same_any _ _ _ _ W⟩
  · have hz : v.s.size ≤ 1000 := by omega
    cases h : sgnOf v.s.data.toList with
    | some n =>
      refine .inl ⟨⟨1, n, 0, ⟨#[]⟩⟩, by simp [turnO, h], fun W hb => ?_⟩
      have H := bytesToInt_any v.k v.i v.u v.s W (hEE W hb) hz
      rw [readI_eq, h] at H
      exact H
    | none =>
      refine .inr ⟨by simp [turnO, h], ⟨1, 0, 0, ⟨#[]⟩⟩, fun W hb => ?_⟩
      have H := bytesToInt_any v.k v.i v.u v.s W (hEE W hb) hz
      rw [readI_eq, h] at H
      exact H
  · have hz : v.s.size ≤ 1000 := by omega
    cases h : numOf M64 v.s.data.toList with
    | some n =>
      refine .inl ⟨⟨2, 0, n, ⟨#[]⟩⟩, by simp [turnO, h], fun W hb => ?_⟩
      have H := bytesToUint_any v.k v.i v.u v.s W (hEE W hb) hz
      rw [readU_eq, h] at H
      exact H
    | none =>
      refine .inr ⟨by simp [turnO, h], ⟨2, 0, 0, ⟨#[]⟩⟩, fun W hb => ?_⟩
      have H := bytesToUint_any v.k v.i v.u v.s W (hEE W hb) hz
      rw [readU_eq, h] at H
      exact H
  · exact .inl ⟨v, rfl, fun W _ => same_any _ _ _ _ W⟩
end Go.Proofs.YtmgeefhacnadcaaGreatDoor
