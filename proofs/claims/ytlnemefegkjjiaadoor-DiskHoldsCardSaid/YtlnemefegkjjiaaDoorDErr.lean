/-
  disk: errors.Is at what is refused; ask, isNone, askFile; refusal.Errno.
-/
import Derived.Test.YtlnemefegkjjiaaDoorErrnoC
namespace Go.Proofs.YtlnemefegkjjiaaDoor
open Go.RowKit Go.Extern.Stop Go.Stop Go.Extern

theorem noIsD (v : Value) (w : World) : (Instr.typeAssert (.iface 90 v) 60 123 true).run Tryd.prog w = .ok (.tuple #[.nilIface, .bool false]) w :=
  run_typeAssert_lacksB Tryd.underlying123 (by kernel_rfl) (by kernel_rfl) v 60 w
theorem rl_cmpD (w : World) : (ReflectliteType.method (fun t => do Rtype.noPackHeld "Comparable" t; (fun a => Value.bool a.comparable) <$> typeInfo t) #[.agg #[.pointer (some ⟨1, 26, none⟩)]]).run Tryd.prog w = .ok (.bool true) w := by kernel_rfl
theorem eq_one (w : World) : (binOp .eql 60 (.iface 26 (.int .i64 1)) (.iface 26 (.int .i64 1))).run Tryd.prog w = .ok (.bool true) w := by kernel_rfl
theorem eq_misD (v : Value) (w : World) : (binOp .eql 60 (.iface 90 v) (.iface 26 (.int .i64 1))).run Tryd.prog w = .ok (.bool false) w := by kernel_rfl

set_option maxHeartbeats 1000000 in
theorem isD_none (w : World) : Calls Tryd.prog 42 #[.nilIface, .iface 26 (.int .i64 1)] w fun e w' => e = .returned (.bool false) ∧ w = w' := by
  have hn : ∀ w, (binOp .eql 60 .nilIface (.iface 26 (.int .i64 1))).run Tryd.prog w = .ok (.bool false) w := fun w => by kernel_rfl
  go_enter Tryd.func42, Tryd.ntmps42
  go_wp2
  go_ret
  exact ⟨rfl, rfl⟩

set_option maxRecDepth 100000 in
set_option maxHeartbeats 4000000 in
theorem isD_one (b : Nat) (w : World) (h1 : w.cell? ⟨b, 1, none⟩ = some (.int .i64 1)) :
    Calls Tryd.prog 42 #[.iface 90 (.pointer (some ⟨b, 0, none⟩)), .iface 26 (.int .i64 1)] w fun e w' => e = .returned (.bool true) ∧ w = w' := by
  have hTO := @run_callFunc_extern Tryd.prog 56 _ ReflectliteType.typeOf Tryd.func56 (by kernel_rfl) (by kernel_rfl) (by kernel_rfl) (by kernel_rfl)
  have hCm := @run_callFunc_extern Tryd.prog 87 _ (ReflectliteType.method fun t => do Rtype.noPackHeld "Comparable" t; pure (.bool (← typeInfo t).comparable)) Tryd.func87 (by kernel_rfl) (by kernel_rfl) (by kernel_rfl) (by kernel_rfl)
  have r1 := rl_typeOfE
  have r2 := rl_cmpD
  have r3 := noIsD
  have r4 := hasUnwrap
  have r5 := eq_one
  have r6 := eq_misD
  go_enter Tryd.func42, Tryd.ntmps42
  go_wp2
  refine wp_loop_rounds 2 ?_
  rw [rounds_succ]
  go_wp2
  rw [rounds_succ]
  go_wp2
  go_ret
  exact ⟨rfl, rfl⟩

/-- what is told of a number of an error: nil of 0 -/
def Told (n : Int) (w : World) (e : Ending) (w' : World) : Prop := (n = 0 ∧ e = .returned .nilIface ∧ Below w.heap.size w w') ∨ (n ≠ 0 ∧ IsErr n w e w')
/-- a disk that is not there, one that New did not make, too -/
def NoDisk (w : World) (v : Value) : Prop := v = .pointer none ∨ ∃ p, v = .pointer (some ⟨p, 0, none⟩) ∧ w.cell? ⟨p, 0, none⟩ = some (.map none)
/-- one that is there: where its cells lie -/
def IsDisk (w : World) (p m : Nat) : Prop := w.cell? ⟨p, 0, none⟩ = some (.map (some m))
/-- numbers, one behind the other -/
def NumsIn (w : World) (oa : Option Addr) (l : List Int) : Prop := ∀ (j : Nat) (h : j < l.length), ∃ a, oa = some a ∧ w.cell? (a.add j) = some (.int .i64 l[j])

theorem eq_map (m : Nat) (W : World) : (binOp .eql 48 (.map (some m)) (.map none)).run Tryd.prog W = .ok (.bool false) W := by kernel_rfl
theorem eq_mapN (W : World) : (binOp .eql 48 (.map none) (.map none)).run Tryd.prog W = .ok (.bool true) W := by kernel_rfl
theorem isErr_of (w : World) (s : ByteArray) (n : Int) : IsErr n w (.returned (.iface 90 (.pointer (some ⟨w.heap.size, 0, none⟩)))) (w.alloc (.cells #[.string s, .int .i64 n] 92)) :=
  ⟨_, rfl, Nat.le_refl _, by simp [go_sem], by go_grown⟩

set_option maxRecDepth 100000 in
set_option maxHeartbeats 1000000 in
theorem ask_no (v : Value) (oa : Option Addr) (n c : Nat) (w : World) (h : NoDisk w v) : Calls Tryd.prog 23 #[v, .slice oa n c] w (IsErr 1 w) := by
  have em := eq_mapN
  rcases h with rfl | ⟨p, rfl, h⟩
  all_goals
    go_enter Tryd.func23, Tryd.ntmps23
    go_wp2_with (go_at_call 39; refine (Of_any _ _ _).mono ?_; rintro e w' ⟨rfl, rfl⟩)
    go_ret
    exact isErr_of _ _ _
set_option maxRecDepth 100000 in
set_option maxHeartbeats 1000000 in
theorem ask_ok (p m : Nat) (w : World) (h : IsDisk w p m) : Calls Tryd.prog 23 #[.pointer (some ⟨p, 0, none⟩), .slice none 0 0] w fun e w' => e = .returned .nilIface ∧ w = w' := by
  unfold IsDisk at h
  have em := eq_map
  go_enter Tryd.func23, Tryd.ntmps23
  go_wp2_with fail
  refine wp_loop_rounds 1 ?_
  rw [rounds_succ]
  go_wp2_with fail
  go_ret
  exact ⟨rfl, rfl⟩
end Go.Proofs.YtlnemefegkjjiaaDoor
