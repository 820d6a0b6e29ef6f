/-
  P6.3: conversions there and back; sure ones. No program.
-/
import Derived.Test.YtbcapmhgilailaaGreatDoorVPure
namespace Go.Proofs.YtbcapmhgilailaaGreatDoor
open Go.RowKit

theorem vEq_same (v : Vl) : vEqB v.k v.i v.u v.s v.k v.i v.u v.s = true := by simp [vEqB]
theorem vEq_diff {v y : Vl} (h : v ≠ y) : vEqB v.k v.i v.u v.s y.k y.i y.u y.s = false := by
  cases e : vEqB v.k v.i v.u v.s y.k y.i y.u y.s
  · rfl
  · exfalso
    unfold vEqB at e
    simp only [Bool.and_eq_true, beq_iff_eq] at e
    obtain ⟨e0, e1, e2, e3⟩ := e
    have e3 := ba_eq e3
    obtain ⟨k, i, u, s⟩ := v
    obtain ⟨k', i', u', s'⟩ := y
    have e0 : k = k' := e0
    have e1 : i = i' := e1
    have e2 : u = u' := e2
    have e3 : s = s' := e3
    subst e0 e1 e2 e3
    exact h rfl
theorem eql_same (v : Vl) (W : World) : (binOp .eql 28 (.agg #[.int .i64 v.k, .int .i64 v.i, .int .u64 v.u, .string v.s]) (.agg #[.int .i64 v.k, .int .i64 v.i, .int .u64 v.u, .string v.s])).run Tryz.prog W = .ok (.bool true) W := by
  rw [← vEq_same v]
  exact run_eql_val v.k v.i v.u v.s v.k v.i v.u v.s W
theorem eql_diff {v y : Vl} (h : v ≠ y) (W : World) : (binOp .eql 28 (.agg #[.int .i64 v.k, .int .i64 v.i, .int .u64 v.u, .string v.s]) (.agg #[.int .i64 y.k, .int .i64 y.i, .int .u64 y.u, .string y.s])).run Tryz.prog W = .ok (.bool false) W := by
  rw [← vEq_diff h]
  exact run_eql_val v.k v.i v.u v.s y.k y.i y.u y.s W
end Go.Proofs.YtbcapmhgilailaaGreatDoor
