/-
  parts that belong together.
-/
import Derived.Test.YtbhgcioeibhjeaaGreatDoorDWks
import Derived.Test.YtbhgcioeibhjeaaGreatDoorLEcT
namespace Go.Proofs.YtbhgcioeibhjeaaGreatDoor
open Go.RowKit

theorem NoDisk.keep {w w' : World} {v : Value} (h : NoDisk w v) (hb : Below w.heap.size w w') : NoDisk w' v := by
  rcases h with h | ⟨p, e, h⟩
  · exact .inl h
  · exact .inr ⟨p, e, by rw [hb.cell (World.block_lt_of_cell? w _ h)]; exact h⟩
theorem errno_in {w w1 : World} (hET : HasET w) {b : Nat} {n : Int} (hw : Below w.heap.size w w1) (hc : w1.cell? ⟨b, 1, none⟩ = some (.int .i64 n)) : Calls Tryz.prog 40 #[.iface 144 (.pointer (some ⟨b, 0, none⟩))] w1 fun e w' => e = .returned (.int .i64 n) ∧ Below w.heap.size w w' :=
  (errno_err b n w1 (hET.below hw hET.lt) hc).mono fun _ _ ⟨e, hb⟩ => ⟨e, hw.trans (hb.mono hw.size)⟩
set_option maxRecDepth 100000 in
set_option maxHeartbeats 2000000 in
theorem Read_no (v : Value) (f : Int) (w : World) (hET : HasET w) (h : NoDisk w v) : Calls Tryz.prog 29 #[v, .int .i64 f] w fun e w' => e = .returned (.tuple #[.slice none 0 0, .int .i64 1]) ∧ Below w.heap.size w w' := by
  have HA := Lib.hid (askFile_no v f none 0 0 w h)
  have HE := Lib.hid hET
  have hq := isErr_ne
  clear h hET
  go_enter Tryz.func29, Tryz.ntmps29
  go_wp2_with (first | (go_at_call 60; refine HA.out.mono ?_; rintro e w1 ⟨b, rfl, hb, hc, hbw⟩) | (go_at_call 40; refine (errno_in HE.out hbw hc).mono ?_; rintro e w2 ⟨rfl, hb2⟩))
  go_ret2
  exact ⟨rfl, hb2⟩
set_option maxRecDepth 100000 in
set_option maxHeartbeats 2000000 in
theorem mayPut_no (v : Value) (f m : Int) (w : World) (h : NoDisk w v) : Calls Tryz.prog 39 #[v, .int .i64 f, .int .i64 m] w (IsErr 1 w) := by
  have HA := Lib.hid (askFile_no v f none 0 0 w h)
  have hq := isErr_err
  clear h
  go_enter Tryz.func39, Tryz.ntmps39
  go_wp2_with (first | (go_at_call 60; refine HA.out.mono ?_; rintro e w1 ⟨b, rfl, hb, hc, hbw⟩))
  go_ret
  exact ⟨b, rfl, hb, hc, hbw⟩
set_option maxRecDepth 100000 in
set_option maxHeartbeats 2000000 in
theorem mayCut_no (v : Value) (f m : Int) (w : World) (h : NoDisk w v) : Calls Tryz.prog 62 #[v, .int .i64 f, .int .i64 m] w (IsErr 1 w) := by
  have hb0 : Below w.heap.size w (w.alloc (.cells #[.int .i64 m] 3)) := (Below.refl _ w).alloc (Nat.le_refl _) _
  have HA := Lib.hid (askFile_no v f (some ⟨w.heap.size, 0, none⟩) 1 1 (w.alloc (.cells #[.int .i64 m] 3)) (h.keep hb0))
  have HB := Lib.hid hb0
  have hq := isErr_err
  clear h hb0
  go_enter Tryz.func62, Tryz.ntmps62
  go_wp2_with (first | (go_at_call 60; refine HA.out.mono ?_; rintro e w1 ⟨b, rfl, hb, hc, hbw⟩))
  go_ret
  exact isErr_below HB.out ⟨b, rfl, hb, hc, hbw⟩
set_option maxRecDepth 100000 in
set_option maxHeartbeats 2000000 in
theorem Append_no (v : Value) (f : Int) (oa : Option Addr) (n c : Nat) (w : World) (hET : HasET w) (h : NoDisk w v) : Calls Tryz.prog 14 #[v, .int .i64 f, .slice oa n c] w fun e w' => e = .returned (.int .i64 1) ∧ Below w.heap.size w w' := by
  have HA := Lib.hid (mayPut_no v f n w h)
  have HE := Lib.hid hET
  have hq := isErr_ne
  clear h hET
  go_enter Tryz.func14, Tryz.ntmps14
  go_wp2_with (first | (go_at_call 39; refine HA.out.mono ?_; rintro e w1 ⟨b, rfl, hb, hc, hbw⟩) | (go_at_call 40; refine (errno_in HE.out hbw hc).mono ?_; rintro e w2 ⟨rfl, hb2⟩))
  go_ret
  exact ⟨rfl, hb2⟩
set_option maxRecDepth 100000 in
set_option maxHeartbeats 2000000 in
theorem Cut_no (v : Value) (f m : Int) (w : World) (hET : HasET w) (h : NoDisk w v) : Calls Tryz.prog 30 #[v, .int .i64 f, .int .i64 m] w fun e w' => e = .returned (.int .i64 1) ∧ Below w.heap.size w w' := by
  have HA := Lib.hid (mayCut_no v f m w h)
  have HE := Lib.hid hET
  have hq := isErr_ne
  clear h hET
  go_enter Tryz.func30, Tryz.ntmps30
  go_wp2_with (first | (go_at_call 62; refine HA.out.mono ?_; rintro e w1 ⟨b, rfl, hb, hc, hbw⟩) | (go_at_call 40; refine (errno_in HE.out hbw hc).mono ?_; rintro e w2 ⟨rfl, hb2⟩))
  go_ret
  exact ⟨rfl, hb2⟩
set_option maxRecDepth 100000 in
set_option maxHeartbeats 2000000 in
theorem Sync_no (v : Value) (w : World) (hET : HasET w) (h : NoDisk w v) : Calls Tryz.prog 27 #[v] w fun e w' => e = .returned (.int .i64 1) ∧ Below w.heap.size w w' := by
  have HA := Lib.hid (ask_no v none 0 0 w h)
  have HE := Lib.hid hET
  have hq := isErr_ne
  clear h hET
  go_enter Tryz.func27, Tryz.ntmps27
  go_wp2_with (first | (go_at_call 58; refine HA.out.mono ?_; rintro e w1 ⟨b, rfl, hb, hc, hbw⟩) | (go_at_call 40; refine (errno_in HE.out hbw hc).mono ?_; rintro e w2 ⟨rfl, hb2⟩))
  go_ret
  exact ⟨rfl, hb2⟩
set_option maxRecDepth 100000 in
set_option maxHeartbeats 2000000 in
theorem Crash_no (v : Value) (n m : Int) (w : World) (hET : HasET w) (h : NoDisk w v) : Calls Tryz.prog 28 #[v, .int .i64 n, .int .i64 m] w fun e w' => e = .returned (.int .i64 1) ∧ Below w.heap.size w w' := by
  have hb0 : Below w.heap.size w (w.alloc (.cells #[.int .i64 n, .int .i64 m] 3)) := (Below.refl _ w).alloc (Nat.le_refl _) _
  have HA := Lib.hid (ask_no v (some ⟨w.heap.size, 0, none⟩) 2 2 (w.alloc (.cells #[.int .i64 n, .int .i64 m] 3)) (h.keep hb0))
  have HB := Lib.hid hb0
  have HE := Lib.hid hET
  have hq := isErr_ne
  clear h hET hb0
  go_enter Tryz.func28, Tryz.ntmps28
  go_wp2_with (first | (go_at_call 58; refine HA.out.mono ?_; rintro e w1 ⟨b, rfl, hb, hc, hbw⟩; have hb5 := HB.out.trans (hbw.mono HB.out.size)) | (go_at_call 40; refine (errno_in HE.out hb5 hc).mono ?_; rintro e w2 ⟨rfl, hb2⟩))
  go_ret
  exact ⟨rfl, hb2⟩
set_option maxHeartbeats 1000000 in
theorem Loose_no (v : Value) (w : World) (h : NoDisk w v) : Calls Tryz.prog 20 #[v] w fun e w' => e = .returned (.int .i64 0) ∧ Below w.heap.size w w' := by
  have HI := Lib.hid (isNone_no v w h)
  clear h
  go_enter Tryz.func20, Tryz.ntmps20
  go_wp2_with (first | (go_at_call 47; refine HI.out.mono ?_; rintro e w1 ⟨rfl, hb⟩))
  go_ret
  exact ⟨rfl, hb⟩
set_option maxHeartbeats 1000000 in
theorem Left_no (v : Value) (w : World) (h : NoDisk w v) : Calls Tryz.prog 18 #[v] w fun e w' => e = .returned (.int .i64 0) ∧ Below w.heap.size w w' := by
  have HI := Lib.hid (isNone_no v w h)
  clear h
  go_enter Tryz.func18, Tryz.ntmps18
  go_wp2_with (first | (go_at_call 47; refine HI.out.mono ?_; rintro e w1 ⟨rfl, hb⟩))
  go_ret
  exact ⟨rfl, hb⟩
end Go.Proofs.YtbhgcioeibhjeaaGreatDoor
namespace Go.Proofs.YtbhgcioeibhjeaaGreatDoor
open Go.RowKit

/-- no log: nil, or one without a disk -/
def NoLog (w : World) (pq : Option Addr) : Prop := pq = none ∨ ∃ q, pq = some ⟨q, 0, none⟩ ∧ w.cell? ⟨q, 0, none⟩ = some (.pointer none)
theorem NoLog.keep {w w' : World} {pq : Option Addr} (h : NoLog w pq) (hb : Below w.heap.size w w') : NoLog w' pq := by
  rcases h with h | ⟨p, e, h⟩
  · exact .inl h
  · exact .inr ⟨p, e, by rw [hb.cell (World.block_lt_of_cell? w _ h)]; exact h⟩
set_option maxRecDepth 100000 in
set_option maxHeartbeats 1000000 in
theorem lask_none (pq : Option Addr) (w : World) (h : NoLog w pq) : Calls Tryz.prog 79 #[.pointer pq] w (LErr 1 w) := by
  have hOf := Of_any
  have hnp : (binOp .eql 25 (.pointer none) (.pointer none)).run Tryz.prog w = .ok (.bool true) w := by first | rfl | kernel_rfl
  rcases h with rfl | ⟨q, rfl, hc⟩
  · go_enter Tryz.func79, Tryz.ntmps79
    go_wp2_with (first | (go_at_call 67; refine (hOf _ _ _).mono ?_; rintro e w1 ⟨rfl, rfl⟩))
    go_ret
    exact ⟨_, rfl, of_cell _ _ _, (Below.refl _ w).alloc (Nat.le_refl _) _⟩
  · go_enter Tryz.func79, Tryz.ntmps79
    go_wp2_with (first | (go_at_call 67; refine (hOf _ _ _).mono ?_; rintro e w1 ⟨rfl, rfl⟩))
    go_ret
    exact ⟨_, rfl, of_cell _ _ _, (Below.refl _ w).alloc (Nat.le_refl _) _⟩
set_option maxRecDepth 100000 in
set_option maxHeartbeats 1000000 in
theorem lisNone_none (pq : Option Addr) (w : World) (h : NoLog w pq) : Calls Tryz.prog 56 #[.pointer pq] w fun x w' => x = .returned (.bool true) ∧ Below w.heap.size w w' := by
  have HA := Lib.hid (lask_none pq w h)
  have hq := isErr_neL
  clear h
  go_enter Tryz.func56, Tryz.ntmps56
  go_wp2_with (first | (go_at_call 79; refine HA.out.mono ?_; rintro e w1 ⟨b, rfl, hc, hbw⟩))
  go_ret
  exact ⟨rfl, hbw⟩
set_option maxRecDepth 100000 in
set_option maxHeartbeats 1000000 in
theorem lmayPut_none (pq : Option Addr) (v : Value) (w : World) (h : NoLog w pq) : Calls Tryz.prog 49 #[.pointer pq, v] w (LErr 1 w) := by
  have HA := Lib.hid (lask_none pq w h)
  have hq := isErr_neL
  clear h
  go_enter Tryz.func49, Tryz.ntmps49
  go_wp2_with (first | (go_at_call 79; refine HA.out.mono ?_; rintro e w1 ⟨b, rfl, hc, hbw⟩))
  go_ret
  exact ⟨b, rfl, hc, hbw⟩
set_option maxRecDepth 100000 in
set_option maxHeartbeats 1000000 in
theorem lAppend_none (pq : Option Addr) (v : Value) (w : World) (hET : HasET w) (h : NoLog w pq) : Calls Tryz.prog 21 #[.pointer pq, v] w fun x w' => x = .returned (.tuple #[.int .i64 0, .int .i64 1]) ∧ Below w.heap.size w w' := by
  have HM := Lib.hid (lmayPut_none pq v w h)
  have HE := Lib.hid hET
  have hq := isErr_neL
  clear h hET
  go_enter Tryz.func21, Tryz.ntmps21
  go_wp2_with (first | (go_at_call 49; refine HM.out.mono ?_; rintro e w1 ⟨b, rfl, hc, hbw⟩) | (go_at_call 40; refine (errno_in HE.out hbw hc).mono ?_; rintro e w2 ⟨rfl, hb2⟩))
  go_ret2
  exact ⟨rfl, hb2⟩
set_option maxRecDepth 100000 in
set_option maxHeartbeats 1000000 in
theorem lfind_none (pq : Option Addr) (i : Int) (w : World) (h : NoLog w pq) : Calls Tryz.prog 51 #[.pointer pq, .int .i64 i] w fun x w' => ∃ b, x = .returned (.tuple #[.slice none 0 0, .iface 144 (.pointer (some ⟨b, 0, none⟩))]) ∧ w'.cell? ⟨b, 1, none⟩ = some (.int .i64 1) ∧ Below w.heap.size w w' := by
  have HA := Lib.hid (lask_none pq w h)
  have hq := isErr_neL
  clear h
  go_enter Tryz.func51, Tryz.ntmps51
  go_wp2_with (first | (go_at_call 79; refine HA.out.mono ?_; rintro e w1 ⟨b, rfl, hc, hbw⟩))
  go_ret2
  exact ⟨b, rfl, hc, hbw⟩
set_option maxRecDepth 100000 in
set_option maxHeartbeats 1000000 in
theorem lRead_none (pq : Option Addr) (i : Int) (w : World) (hET : HasET w) (h : NoLog w pq) : Calls Tryz.prog 22 #[.pointer pq, .int .i64 i] w fun x w' => x = .returned (.tuple #[.slice none 0 0, .int .i64 0, .int .i64 1]) ∧ Below w.heap.size w w' := by
  have HF := Lib.hid (lfind_none pq i w h)
  have HE := Lib.hid hET
  have hq := isErr_neL
  clear h hET
  go_enter Tryz.func22, Tryz.ntmps22
  go_wp2_with (first | (go_at_call 51; refine HF.out.mono ?_; rintro x w1 ⟨b, rfl, hc, hbw⟩) | (go_at_call 40; refine (errno_in HE.out hbw hc).mono ?_; rintro e w2 ⟨rfl, hb2⟩))
  refine bodyPost_ret (v := .tuple #[.slice none 0 0, .int .i64 0, .int .i64 1]) (by simp [results, Tryz.results22, go_sem]) rfl ⟨rfl, hb2⟩
set_option maxRecDepth 100000 in
set_option maxHeartbeats 1000000 in
theorem loctets_none (pq : Option Addr) (w : World) (h : NoLog w pq) : Calls Tryz.prog 53 #[.pointer pq] w (OctP [] w) := by
  have HA := Lib.hid (lisNone_none pq w h)
  clear h
  go_enter Tryz.func53, Tryz.ntmps53
  go_wp2_with (first | (go_at_call 56; refine HA.out.mono ?_; rintro e w1 ⟨rfl, hbw⟩))
  go_ret
  exact ⟨_, rfl, .inl ⟨rfl, rfl⟩, hbw, fun g hg => by cases hg⟩
set_option maxRecDepth 100000 in
set_option maxHeartbeats 1000000 in
theorem lEnd_none (pq : Option Addr) (w : World) (h : NoLog w pq) : Calls Tryz.prog 24 #[.pointer pq] w fun x w' => x = .returned (.int .i64 0) ∧ Below w.heap.size w w' := by
  have HA := Lib.hid (lisNone_none pq w h)
  clear h
  go_enter Tryz.func24, Tryz.ntmps24
  go_wp2_with (first | (go_at_call 56; refine HA.out.mono ?_; rintro e w1 ⟨rfl, hbw⟩))
  go_ret
  exact ⟨rfl, hbw⟩
set_option maxRecDepth 100000 in
set_option maxHeartbeats 1000000 in
theorem lTorn_none (pq : Option Addr) (w : World) (h : NoLog w pq) : Calls Tryz.prog 25 #[.pointer pq] w fun x w' => x = .returned (.int .i64 0) ∧ Below w.heap.size w w' := by
  have HA := Lib.hid (lisNone_none pq w h)
  clear h
  go_enter Tryz.func25, Tryz.ntmps25
  go_wp2_with (first | (go_at_call 56; refine HA.out.mono ?_; rintro e w1 ⟨rfl, hbw⟩))
  go_ret
  exact ⟨rfl, hbw⟩
set_option maxRecDepth 100000 in
set_option maxHeartbeats 1000000 in
theorem lOpen_nil (f : Int) (w : World) (hET : HasET w) : Calls Tryz.prog 8 #[.pointer none, .int .i64 f] w fun x w' => x = .returned (.tuple #[.pointer none, .int .i64 1]) ∧ Below w.heap.size w w' := by
  have HR := Lib.hid (Read_no (.pointer none) f w hET (.inl rfl))
  clear hET
  go_enter Tryz.func8, Tryz.ntmps8
  go_wp2_with (first | (go_at_call 29; refine HR.out.mono ?_; rintro e w1 ⟨rfl, hbw⟩))
  go_ret2
  exact ⟨rfl, hbw⟩
end Go.Proofs.YtbhgcioeibhjeaaGreatDoor
