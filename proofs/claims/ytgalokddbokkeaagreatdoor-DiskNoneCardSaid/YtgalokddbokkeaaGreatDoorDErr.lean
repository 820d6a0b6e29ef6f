/-
  disk: errors.Is at what is refused; ask, isNone, askFile; refusal.Errno.
-/
import Derived.Test.YtgalokddbokkeaaGreatDoorErrnoC
namespace Go.Proofs.YtgalokddbokkeaaGreatDoor
open Go.RowKit Go.Extern.Stop Go.Stop Go.Extern

theorem noIsD (v : Value) (w : World) : (Instr.typeAssert (.iface 88 v) 52 125 true).run Tryz.prog w = .ok (.tuple #[.nilIface, .bool false]) w :=
  run_typeAssert_lacksB Tryz.underlying125 (by kernel_rfl) (by kernel_rfl) v 52 w
theorem rl_cmpD (w : World) : (ReflectliteType.method (fun t => do Rtype.noPackHeld "Comparable" t; (fun a => Value.bool a.comparable) <$> typeInfo t) #[.agg #[.pointer (some ⟨1, 34, none⟩)]]).run Tryz.prog w = .ok (.bool true) w := by kernel_rfl
theorem eq_one (w : World) : (binOp .eql 52 (.iface 34 (.int .i64 1)) (.iface 34 (.int .i64 1))).run Tryz.prog w = .ok (.bool true) w := by kernel_rfl
theorem eq_misD (v : Value) (w : World) : (binOp .eql 52 (.iface 88 v) (.iface 34 (.int .i64 1))).run Tryz.prog w = .ok (.bool false) w := by kernel_rfl

set_option maxHeartbeats 1000000 in
theorem isD_none (w : World) : Calls Tryz.prog 41 #[.nilIface, .iface 34 (.int .i64 1)] w fun e w' => e = .returned (.bool false) ∧ w = w' := by
  have hn : ∀ w, (binOp .eql 52 .nilIface (.iface 34 (.int .i64 1))).run Tryz.prog w = .ok (.bool false) w := fun w => by kernel_rfl
  go_enter Tryz.func41, Tryz.ntmps41
  go_wp2
  go_ret
  exact ⟨rfl, rfl⟩

set_option maxRecDepth 100000 in
set_option maxHeartbeats 4000000 in
theorem isD_one (b : Nat) (w : World) (h1 : w.cell? ⟨b, 1, none⟩ = some (.int .i64 1)) :
    Calls Tryz.prog 41 #[.iface 88 (.pointer (some ⟨b, 0, none⟩)), .iface 34 (.int .i64 1)] w fun e w' => e = .returned (.bool true) ∧ w = w' := by
  have hTO := @run_callFunc_extern Tryz.prog 57 _ ReflectliteType.typeOf Tryz.func57 (by kernel_rfl) (by kernel_rfl) (by kernel_rfl) (by kernel_rfl)
  have hCm := @run_callFunc_extern Tryz.prog 114 _ (ReflectliteType.method fun t => do Rtype.noPackHeld "Comparable" t; pure (.bool (← typeInfo t).comparable)) Tryz.func114 (by kernel_rfl) (by kernel_rfl) (by kernel_rfl) (by kernel_rfl)
  have r1 := rl_typeOfE
  have r2 := rl_cmpD
  have r3 := noIsD
  have r4 := hasUnwrap
  have r5 := eq_one
  have r6 := eq_misD
  go_enter Tryz.func41, Tryz.ntmps41
  go_wp2
  refine wp_loop_rounds 2 ?_
  rw [rounds_succ]
  go_wp2
  rw [rounds_succ]
  go_wp2
  go_ret
  exact ⟨rfl, rfl⟩

/-- what is told of a number of an error: nil of 0 -/
def Told (n : Int) (w : World) (e : Ending) (w' : World) : Prop := (n = 0 ∧ e = .returned .nilIface ∧ Below w.heap.size w w') ∨ (n ≠ 0 ∧ IsErr n w e w')
/-- a disk that is not there, one that New did not make, too -/
def NoDisk (w : World) (v : Value) : Prop := v = .pointer none ∨ ∃ p, v = .pointer (some ⟨p, 0, none⟩) ∧ w.cell? ⟨p, 0, none⟩ = some (.map none)
/-- one that is there: where its cells lie -/
def IsDisk (w : World) (p m : Nat) : Prop := w.cell? ⟨p, 0, none⟩ = some (.map (some m))
/-- numbers, one behind the other -/
def NumsIn (w : World) (oa : Option Addr) (l : List Int) : Prop := ∀ (j : Nat) (h : j < l.length), ∃ a, oa = some a ∧ w.cell? (a.add j) = some (.int .i64 l[j])

theorem eq_map (m : Nat) (W : World) : (binOp .eql 30 (.map (some m)) (.map none)).run Tryz.prog W = .ok (.bool false) W := by kernel_rfl
theorem eq_mapN (W : World) : (binOp .eql 30 (.map none) (.map none)).run Tryz.prog W = .ok (.bool true) W := by kernel_rfl
theorem isErr_of (w : World) (s : ByteArray) (n : Int) : IsErr n w (.returned (.iface 88 (.pointer (some ⟨w.heap.size, 0, none⟩)))) (w.alloc (.cells #[.string s, .int .i64 n] 90)) :=
  ⟨_, rfl, Nat.le_refl _, by simp [go_sem], by go_grown⟩

set_option maxRecDepth 100000 in
set_option maxHeartbeats 1000000 in
theorem ask_no (v : Value) (oa : Option Addr) (n c : Nat) (w : World) (h : NoDisk w v) : Calls Tryz.prog 31 #[v, .slice oa n c] w (IsErr 1 w) := by
  have em := eq_mapN
  rcases h with rfl | ⟨p, rfl, h⟩
  all_goals
    go_enter Tryz.func31, Tryz.ntmps31
    go_wp2_with (go_at_call 39; refine (Of_any _ _ _).mono ?_; rintro e w' ⟨rfl, rfl⟩)
    go_ret
    exact isErr_of _ _ _
set_option maxRecDepth 100000 in
set_option maxHeartbeats 1000000 in
theorem ask_ok (p m : Nat) (w : World) (h : IsDisk w p m) : Calls Tryz.prog 31 #[.pointer (some ⟨p, 0, none⟩), .slice none 0 0] w fun e w' => e = .returned .nilIface ∧ w = w' := by
  unfold IsDisk at h
  have em := eq_map
  go_enter Tryz.func31, Tryz.ntmps31
  go_wp2_with fail
  refine wp_loop_rounds 1 ?_
  rw [rounds_succ]
  go_wp2_with fail
  go_ret
  exact ⟨rfl, rfl⟩
end Go.Proofs.YtgalokddbokkeaaGreatDoor
