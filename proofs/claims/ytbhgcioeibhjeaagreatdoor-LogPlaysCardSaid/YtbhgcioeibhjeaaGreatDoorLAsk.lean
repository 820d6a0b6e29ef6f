/-
  log: ask, isNone, mayPut, End, Torn, of a log that is there.
-/
import Derived.Test.YtbhgcioeibhjeaaGreatDoorLRcr
namespace Go.Proofs.YtbhgcioeibhjeaaGreatDoor
open Go.RowKit

/-- a log's cells: its disk's place, its file, its end, how many bytes were torn -/
def LogC (w : World) (q p : Nat) (f e t : Int) : Prop := w.heap[q]? = some (.cells #[.pointer (some ⟨p, 0, none⟩), .int .i64 f, .int .i64 e, .int .i64 t] 55 (0, 0))
theorem LogC.cells {w : World} {q p : Nat} {f e t : Int} (h : LogC w q p f e t) : w.cell? ⟨q, 0, none⟩ = some (.pointer (some ⟨p, 0, none⟩)) ∧ w.cell? ⟨q, 1, none⟩ = some (.int .i64 f) ∧ w.cell? ⟨q, 2, none⟩ = some (.int .i64 e) ∧ w.cell? ⟨q, 3, none⟩ = some (.int .i64 t) := by
  unfold LogC at h
  exact ⟨by simp [World.cell?, h], by simp [World.cell?, h], by simp [World.cell?, h], by simp [World.cell?, h]⟩
set_option maxRecDepth 100000 in
set_option maxHeartbeats 1000000 in
theorem lask_ok (q p : Nat) (f e t : Int) (w : World) (h : LogC w q p f e t) : Calls Tryz.prog 79 #[.pointer (some ⟨q, 0, none⟩)] w fun x w' => x = .returned .nilIface ∧ w = w' := by
  obtain ⟨c0, c1, c2, c3⟩ := h.cells
  clear h
  go_enter Tryz.func79, Tryz.ntmps79
  go_wp2_with fail
  go_ret
  exact ⟨rfl, rfl⟩
set_option maxRecDepth 100000 in
set_option maxHeartbeats 1000000 in
theorem lisNone_ok (q p : Nat) (f e t : Int) (w : World) (h : LogC w q p f e t) : Calls Tryz.prog 56 #[.pointer (some ⟨q, 0, none⟩)] w fun x w' => x = .returned (.bool false) ∧ w = w' := by
  have HA := Lib.hid (lask_ok q p f e t w h)
  have hq : ∀ W, (binOp .neq 86 .nilIface .nilIface).run Tryz.prog W = .ok (.bool false) W := fun _ => rfl
  clear h
  go_enter Tryz.func56, Tryz.ntmps56
  go_wp2_with (first | (go_at_call 79; with_reducible refine HA.out.mono ?_; rintro x w1 ⟨rfl, rfl⟩))
  go_ret
  exact ⟨rfl, rfl⟩
set_option maxRecDepth 100000 in
set_option maxHeartbeats 1000000 in
theorem lEnd_ok (q p : Nat) (f e t : Int) (w : World) (h : LogC w q p f e t) : Calls Tryz.prog 24 #[.pointer (some ⟨q, 0, none⟩)] w fun x w' => x = .returned (.int .i64 e) ∧ w = w' := by
  have HA := Lib.hid (lisNone_ok q p f e t w h)
  obtain ⟨c0, c1, c2, c3⟩ := h.cells
  clear h
  go_enter Tryz.func24, Tryz.ntmps24
  go_wp2_with (first | (go_at_call 56; with_reducible refine HA.out.mono ?_; rintro x w1 ⟨rfl, rfl⟩))
  go_ret
  exact ⟨rfl, rfl⟩
set_option maxRecDepth 100000 in
set_option maxHeartbeats 1000000 in
theorem lTorn_ok (q p : Nat) (f e t : Int) (w : World) (h : LogC w q p f e t) : Calls Tryz.prog 25 #[.pointer (some ⟨q, 0, none⟩)] w fun x w' => x = .returned (.int .i64 t) ∧ w = w' := by
  have HA := Lib.hid (lisNone_ok q p f e t w h)
  obtain ⟨c0, c1, c2, c3⟩ := h.cells
  clear h
  go_enter Tryz.func25, Tryz.ntmps25
  go_wp2_with (first | (go_at_call 56; with_reducible refine HA.out.mono ?_; rintro x w1 ⟨rfl, rfl⟩))
  go_ret
  exact ⟨rfl, rfl⟩
set_option maxRecDepth 100000 in
set_option maxHeartbeats 1000000 in
theorem lmayBe_ok (oa : Option Addr) (n cap : Nat) (w : World) (hn : n ≤ 60000) : Calls Tryz.prog 57 #[.slice oa n cap] w fun x w' => x = .returned .nilIface ∧ w = w' := by
  go_enter Tryz.func57, Tryz.ntmps57
  go_wp2_with fail
  go_ret
  exact ⟨rfl, rfl⟩
set_option maxRecDepth 100000 in
set_option maxHeartbeats 1000000 in
theorem lmayPut_ok (q p : Nat) (f e t : Int) (oa : Option Addr) (n cap : Nat) (w : World) (h : LogC w q p f e t) (hn : n ≤ 60000) : Calls Tryz.prog 49 #[.pointer (some ⟨q, 0, none⟩), .slice oa n cap] w fun x w' => x = .returned .nilIface ∧ w = w' := by
  have HA := Lib.hid (lask_ok q p f e t w h)
  have HM := Lib.hid (lmayBe_ok oa n cap w hn)
  have hq : ∀ W, (binOp .neq 86 .nilIface .nilIface).run Tryz.prog W = .ok (.bool false) W := fun _ => rfl
  clear h
  go_enter Tryz.func49, Tryz.ntmps49
  go_wp2_with (first | (go_at_call 79; with_reducible refine HA.out.mono ?_; rintro x w1 ⟨rfl, rfl⟩) | (go_at_call 57; with_reducible refine HM.out.mono ?_; rintro x w1 ⟨rfl, rfl⟩))
  go_ret
  exact ⟨rfl, rfl⟩
end Go.Proofs.YtbhgcioeibhjeaaGreatDoor
