/-
  log: what is told of none.
-/
import Derived.Test.YtbhgcioeibhjeaaGreatDoorLEach
import Derived.Test.YtbhgcioeibhjeaaGreatDoorDNone
namespace Go.Proofs.YtbhgcioeibhjeaaGreatDoor
open Go.RowKit

/-- no log: nil, or one without a disk -/
def NoLog (w : World) (pq : Option Addr) : Prop := pq = none ∨ ∃ q, pq = some ⟨q, 0, none⟩ ∧ w.cell? ⟨q, 0, none⟩ = some (.pointer none)
theorem NoLog.keep {w w' : World} {pq : Option Addr} (h : NoLog w pq) (hb : Below w.heap.size w w') : NoLog w' pq := by
  rcases h with h | ⟨p, e, h⟩
  · exact .inl h
  · exact .inr ⟨p, e, by rw [hb.cell (World.block_lt_of_cell? w _ h)]; exact h⟩
set_option maxRecDepth 100000 in
set_option maxHeartbeats 1000000 in
theorem lask_none (pq : Option Addr) (w : World) (h : NoLog w pq) : Calls Tryz.prog 79 #[.pointer pq] w (LErr 1 w) := by
  have hOf := Of_any
  have hnp : (binOp .eql 25 (.pointer none) (.pointer none)).run Tryz.prog w = .ok (.bool true) w := by first | rfl | kernel_rfl
  rcases h with rfl | ⟨q, rfl, hc⟩
  · go_enter Tryz.func79, Tryz.ntmps79
    go_wp2_with (first | (go_at_call 67; refine (hOf _ _ _).mono ?_; rintro e w1 ⟨rfl, rfl⟩))
    go_ret
    exact ⟨_, rfl, of_cell _ _ _, (Below.refl _ w).alloc (Nat.le_refl _) _⟩
  · go_enter Tryz.func79, Tryz.ntmps79
    go_wp2_with (first | (go_at_call 67; refine (hOf _ _ _).mono ?_; rintro e w1 ⟨rfl, rfl⟩))
    go_ret
    exact ⟨_, rfl, of_cell _ _ _, (Below.refl _ w).alloc (Nat.le_refl _) _⟩
set_option maxRecDepth 100000 in
set_option maxHeartbeats 1000000 in
theorem lisNone_none (pq : Option Addr) (w : World) (h : NoLog w pq) : Calls Tryz.prog 56 #[.pointer pq] w fun x w' => x = .returned (.bool true) ∧ Below w.heap.size w w' := by
  have HA := Lib.hid (lask_none pq w h)
  have hq := isErr_neL
  clear h
  go_enter Tryz.func56, Tryz.ntmps56
  go_wp2_with (first | (go_at_call 79; refine HA.out.mono ?_; rintro e w1 ⟨b, rfl, hc, hbw⟩))
  go_ret
  exact ⟨rfl, hbw⟩
set_option maxRecDepth 100000 in
set_option maxHeartbeats 1000000 in
theorem lmayPut_none (pq : Option Addr) (v : Value) (w : World) (h : NoLog w pq) : Calls Tryz.prog 49 #[.pointer pq, v] w (LErr 1 w) := by
  have HA := Lib.hid (lask_none pq w h)
  have hq := isErr_neL
  clear h
  go_enter Tryz.func49, Tryz.ntmps49
  go_wp2_with (first | (go_at_call 79; refine HA.out.mono ?_; rintro e w1 ⟨b, rfl, hc, hbw⟩))
  go_ret
  exact ⟨b, rfl, hc, hbw⟩
set_option maxRecDepth 100000 in
set_option maxHeartbeats 1000000 in
theorem lAppend_none (pq : Option Addr) (v : Value) (w : World) (hET : HasET w) (h : NoLog w pq) : Calls Tryz.prog 21 #[.pointer pq, v] w fun x w' => x = .returned (.tuple #[.int .i64 0, .int .i64 1]) ∧ Below w.heap.size w w' := by
  have HM := Lib.hid (lmayPut_none pq v w h)
  have HE := Lib.hid hET
  have hq := isErr_neL
  clear h hET
  go_enter Tryz.func21, Tryz.ntmps21
  go_wp2_with (first | (go_at_call 49; refine HM.out.mono ?_; rintro e w1 ⟨b, rfl, hc, hbw⟩) | (go_at_call 40; refine (errno_in HE.out hbw hc).mono ?_; rintro e w2 ⟨rfl, hb2⟩))
  go_ret2
  exact ⟨rfl, hb2⟩
set_option maxRecDepth 100000 in
set_option maxHeartbeats 1000000 in
theorem lfind_none (pq : Option Addr) (i : Int) (w : World) (h : NoLog w pq) : Calls Tryz.prog 51 #[.pointer pq, .int .i64 i] w fun x w' => ∃ b, x = .returned (.tuple #[.slice none 0 0, .iface 144 (.pointer (some ⟨b, 0, none⟩))]) ∧ w'.cell? ⟨b, 1, none⟩ = some (.int .i64 1) ∧ Below w.heap.size w w' := by
  have HA := Lib.hid (lask_none pq w h)
  have hq := isErr_neL
  clear h
  go_enter Tryz.func51, Tryz.ntmps51
  go_wp2_with (first | (go_at_call 79; refine HA.out.mono ?_; rintro e w1 ⟨b, rfl, hc, hbw⟩))
  go_ret2
  exact ⟨b, rfl, hc, hbw⟩
set_option maxRecDepth 100000 in
set_option maxHeartbeats 1000000 in
theorem lRead_none (pq : Option Addr) (i : Int) (w : World) (hET : HasET w) (h : NoLog w pq) : Calls Tryz.prog 22 #[.pointer pq, .int .i64 i] w fun x w' => x = .returned (.tuple #[.slice none 0 0, .int .i64 0, .int .i64 1]) ∧ Below w.heap.size w w' := by
  have HF := Lib.hid (lfind_none pq i w h)
  have HE := Lib.hid hET
  have hq := isErr_neL
  clear h hET
  go_enter Tryz.func22, Tryz.ntmps22
  go_wp2_with (first | (go_at_call 51; refine HF.out.mono ?_; rintro x w1 ⟨b, rfl, hc, hbw⟩) | (go_at_call 40; refine (errno_in HE.out hbw hc).mono ?_; rintro e w2 ⟨rfl, hb2⟩))
  refine bodyPost_ret (v := .tuple #[.slice none 0 0, .int .i64 0, .int .i64 1]) (by simp [results, Tryz.results22, go_sem]) rfl ⟨rfl, hb2⟩
set_option maxRecDepth 100000 in
set_option maxHeartbeats 1000000 in
theorem loctets_none (pq : Option Addr) (w : World) (h : NoLog w pq) : Calls Tryz.prog 53 #[.pointer pq] w (OctP [] w) := by
  have HA := Lib.hid (lisNone_none pq w h)
  clear h
  go_enter Tryz.func53, Tryz.ntmps53
  go_wp2_with (first | (go_at_call 56; refine HA.out.mono ?_; rintro e w1 ⟨rfl, hbw⟩))
  go_ret
  exact ⟨_, rfl, .inl ⟨rfl, rfl⟩, hbw, fun g hg => by cases hg⟩
set_option maxRecDepth 100000 in
set_option maxHeartbeats 1000000 in
theorem lEnd_none (pq : Option Addr) (w : World) (h : NoLog w pq) : Calls Tryz.prog 24 #[.pointer pq] w fun x w' => x = .returned (.int .i64 0) ∧ Below w.heap.size w w' := by
  have HA := Lib.hid (lisNone_none pq w h)
  clear h
  go_enter Tryz.func24, Tryz.ntmps24
  go_wp2_with (first | (go_at_call 56; refine HA.out.mono ?_; rintro e w1 ⟨rfl, hbw⟩))
  go_ret
  exact ⟨rfl, hbw⟩
set_option maxRecDepth 100000 in
set_option maxHeartbeats 1000000 in
theorem lTorn_none (pq : Option Addr) (w : World) (h : NoLog w pq) : Calls Tryz.prog 25 #[.pointer pq] w fun x w' => x = .returned (.int .i64 0) ∧ Below w.heap.size w w' := by
  have HA := Lib.hid (lisNone_none pq w h)
  clear h
  go_enter Tryz.func25, Tryz.ntmps25
  go_wp2_with (first | (go_at_call 56; refine HA.out.mono ?_; rintro e w1 ⟨rfl, hbw⟩))
  go_ret
  exact ⟨rfl, hbw⟩
set_option maxRecDepth 100000 in
set_option maxHeartbeats 1000000 in
theorem lOpen_nil (f : Int) (w : World) (hET : HasET w) : Calls Tryz.prog 8 #[.pointer none, .int .i64 f] w fun x w' => x = .returned (.tuple #[.pointer none, .int .i64 1]) ∧ Below w.heap.size w w' := by
  have HR := Lib.hid (Read_no (.pointer none) f w hET (.inl rfl))
  clear hET
  go_enter Tryz.func8, Tryz.ntmps8
  go_wp2_with (first | (go_at_call 29; refine HR.out.mono ?_; rintro e w1 ⟨rfl, hbw⟩))
  go_ret2
  exact ⟨rfl, hbw⟩
end Go.Proofs.YtbhgcioeibhjeaaGreatDoor
