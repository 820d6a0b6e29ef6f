/-
  disk: errors.Is at what is refused; ask, isNone, askFile; refusal.Errno.
-/
import Derived.Test.YtbhgcioeibhjeaaDoorKErr
namespace Go.Proofs.YtbhgcioeibhjeaaDoor
open Go.RowKit Go.Extern.Stop Go.Stop Go.Extern

theorem rl_cmpD (w : World) : (ReflectliteType.method (fun t => do Rtype.noPackHeld "Comparable" t; (fun a => Value.bool a.comparable) <$> typeInfo t) #[.agg #[.pointer (some ⟨1, 24, none⟩)]]).run Tryd.prog w = .ok (.bool true) w := by kernel_rfl
theorem eq_one (w : World) : (binOp .eql 50 (.iface 24 (.int .i64 1)) (.iface 24 (.int .i64 1))).run Tryd.prog w = .ok (.bool true) w := by kernel_rfl
theorem eq_misD (v : Value) (w : World) : (binOp .eql 50 (.iface 106 v) (.iface 24 (.int .i64 1))).run Tryd.prog w = .ok (.bool false) w := by kernel_rfl

/-- what is told of a number of an error: nil of 0 -/
def Told (n : Int) (w : World) (e : Ending) (w' : World) : Prop := (n = 0 ∧ e = .returned .nilIface ∧ Below w.heap.size w w') ∨ (n ≠ 0 ∧ IsErr n w e w')
/-- a disk that is not there, one that New did not make, too -/
def NoDisk (w : World) (v : Value) : Prop := v = .pointer none ∨ ∃ p, v = .pointer (some ⟨p, 0, none⟩) ∧ w.cell? ⟨p, 0, none⟩ = some (.map none)
/-- one that is there: where its cells lie -/
def IsDisk (w : World) (p m : Nat) : Prop := w.cell? ⟨p, 0, none⟩ = some (.map (some m))
/-- numbers, one behind the other -/
def NumsIn (w : World) (oa : Option Addr) (l : List Int) : Prop := ∀ (j : Nat) (h : j < l.length), ∃ a, oa = some a ∧ w.cell? (a.add j) = some (.int .i64 l[j])

theorem eq_map (m : Nat) (W : World) : (binOp .eql 60 (.map (some m)) (.map none)).run Tryd.prog W = .ok (.bool false) W := by kernel_rfl
theorem eq_mapN (W : World) : (binOp .eql 60 (.map none) (.map none)).run Tryd.prog W = .ok (.bool true) W := by kernel_rfl
theorem isErr_of (w : World) (s : ByteArray) (n : Int) : IsErr n w (.returned (.iface 106 (.pointer (some ⟨w.heap.size, 0, none⟩)))) (w.alloc (.cells #[.string s, .int .i64 n] 108)) :=
  ⟨_, rfl, Nat.le_refl _, by simp [go_sem], by go_grown⟩

set_option maxRecDepth 100000 in
set_option maxHeartbeats 1000000 in
theorem ask_no (v : Value) (oa : Option Addr) (n c : Nat) (w : World) (h : NoDisk w v) : Calls Tryd.prog 29 #[v, .slice oa n c] w (IsErr 1 w) := by
  have em := eq_mapN
  rcases h with rfl | ⟨p, rfl, h⟩
  all_goals
    go_enter Tryd.func29, Tryd.ntmps29
    go_wp2_with (go_at_call 34; refine (Of_any _ _ _).mono ?_; rintro e w' ⟨rfl, rfl⟩)
    go_ret
    exact isErr_of _ _ _
set_option maxRecDepth 100000 in
set_option maxHeartbeats 1000000 in
theorem ask_ok (p m : Nat) (w : World) (h : IsDisk w p m) : Calls Tryd.prog 29 #[.pointer (some ⟨p, 0, none⟩), .slice none 0 0] w fun e w' => e = .returned .nilIface ∧ w = w' := by
  unfold IsDisk at h
  have em := eq_map
  go_enter Tryd.func29, Tryd.ntmps29
  go_wp2_with fail
  refine wp_loop_rounds 1 ?_
  rw [rounds_succ]
  go_wp2_with fail
  go_ret
  exact ⟨rfl, rfl⟩
end Go.Proofs.YtbhgcioeibhjeaaDoor
