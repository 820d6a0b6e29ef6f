/-
  disk: what is told of none.
-/
import Derived.Test.YtbhgcioeibhjeaaGreatDoorDWks
namespace Go.Proofs.YtbhgcioeibhjeaaGreatDoor
open Go.RowKit

theorem NoDisk.keep {w w' : World} {v : Value} (h : NoDisk w v) (hb : Below w.heap.size w w') : NoDisk w' v := by
  rcases h with h | ⟨p, e, h⟩
  · exact .inl h
  · exact .inr ⟨p, e, by rw [hb.cell (World.block_lt_of_cell? w _ h)]; exact h⟩
theorem errno_in {w w1 : World} (hET : HasET w) {b : Nat} {n : Int} (hw : Below w.heap.size w w1) (hc : w1.cell? ⟨b, 1, none⟩ = some (.int .i64 n)) : Calls Tryz.prog 40 #[.iface 144 (.pointer (some ⟨b, 0, none⟩))] w1 fun e w' => e = .returned (.int .i64 n) ∧ Below w.heap.size w w' :=
  (errno_err b n w1 (hET.below hw hET.lt) hc).mono fun _ _ ⟨e, hb⟩ => ⟨e, hw.trans (hb.mono hw.size)⟩
set_option maxRecDepth 100000 in
set_option maxHeartbeats 2000000 in
theorem Read_no (v : Value) (f : Int) (w : World) (hET : HasET w) (h : NoDisk w v) : Calls Tryz.prog 29 #[v, .int .i64 f] w fun e w' => e = .returned (.tuple #[.slice none 0 0, .int .i64 1]) ∧ Below w.heap.size w w' := by
  have HA := Lib.hid (askFile_no v f none 0 0 w h)
  have HE := Lib.hid hET
  have hq := isErr_ne
  clear h hET
  go_enter Tryz.func29, Tryz.ntmps29
  go_wp2_with (first | (go_at_call 60; refine HA.out.mono ?_; rintro e w1 ⟨b, rfl, hb, hc, hbw⟩) | (go_at_call 40; refine (errno_in HE.out hbw hc).mono ?_; rintro e w2 ⟨rfl, hb2⟩))
  go_ret2
  exact ⟨rfl, hb2⟩
set_option maxRecDepth 100000 in
set_option maxHeartbeats 2000000 in
theorem mayPut_no (v : Value) (f m : Int) (w : World) (h : NoDisk w v) : Calls Tryz.prog 39 #[v, .int .i64 f, .int .i64 m] w (IsErr 1 w) := by
  have HA := Lib.hid (askFile_no v f none 0 0 w h)
  have hq := isErr_err
  clear h
  go_enter Tryz.func39, Tryz.ntmps39
  go_wp2_with (first | (go_at_call 60; refine HA.out.mono ?_; rintro e w1 ⟨b, rfl, hb, hc, hbw⟩))
  go_ret
  exact ⟨b, rfl, hb, hc, hbw⟩
set_option maxRecDepth 100000 in
set_option maxHeartbeats 2000000 in
theorem mayCut_no (v : Value) (f m : Int) (w : World) (h : NoDisk w v) : Calls Tryz.prog 62 #[v, .int .i64 f, .int .i64 m] w (IsErr 1 w) := by
  have hb0 : Below w.heap.size w (w.alloc (.cells #[.int .i64 m] 3)) := (Below.refl _ w).alloc (Nat.le_refl _) _
  have HA := Lib.hid (askFile_no v f (some ⟨w.heap.size, 0, none⟩) 1 1 (w.alloc (.cells #[.int .i64 m] 3)) (h.keep hb0))
  have HB := Lib.hid hb0
  have hq := isErr_err
  clear h hb0
  go_enter Tryz.func62, Tryz.ntmps62
  go_wp2_with (first | (go_at_call 60; refine HA.out.mono ?_; rintro e w1 ⟨b, rfl, hb, hc, hbw⟩))
  go_ret
  exact isErr_below HB.out ⟨b, rfl, hb, hc, hbw⟩
set_option maxRecDepth 100000 in
set_option maxHeartbeats 2000000 in
theorem Append_no (v : Value) (f : Int) (oa : Option Addr) (n c : Nat) (w : World) (hET : HasET w) (h : NoDisk w v) : Calls Tryz.prog 14 #[v, .int .i64 f, .slice oa n c] w fun e w' => e = .returned (.int .i64 1) ∧ Below w.heap.size w w' := by
  have HA := Lib.hid (mayPut_no v f n w h)
  have HE := Lib.hid hET
  have hq := isErr_ne
  clear h hET
  go_enter Tryz.func14, Tryz.ntmps14
  go_wp2_with (first | (go_at_call 39; refine HA.out.mono ?_; rintro e w1 ⟨b, rfl, hb, hc, hbw⟩) | (go_at_call 40; refine (errno_in HE.out hbw hc).mono ?_; rintro e w2 ⟨rfl, hb2⟩))
  go_ret
  exact ⟨rfl, hb2⟩
set_option maxRecDepth 100000 in
set_option maxHeartbeats 2000000 in
theorem Cut_no (v : Value) (f m : Int) (w : World) (hET : HasET w) (h : NoDisk w v) : Calls Tryz.prog 30 #[v, .int .i64 f, .int .i64 m] w fun e w' => e = .returned (.int .i64 1) ∧ Below w.heap.size w w' := by
  have HA := Lib.hid (mayCut_no v f m w h)
  have HE := Lib.hid hET
  have hq := isErr_ne
  clear h hET
  go_enter Tryz.func30, Tryz.ntmps30
  go_wp2_with (first | (go_at_call 62; refine HA.out.mono ?_; rintro e w1 ⟨b, rfl, hb, hc, hbw⟩) | (go_at_call 40; refine (errno_in HE.out hbw hc).mono ?_; rintro e w2 ⟨rfl, hb2⟩))
  go_ret
  exact ⟨rfl, hb2⟩
set_option maxRecDepth 100000 in
set_option maxHeartbeats 2000000 in
theorem Sync_no (v : Value) (w : World) (hET : HasET w) (h : NoDisk w v) : Calls Tryz.prog 27 #[v] w fun e w' => e = .returned (.int .i64 1) ∧ Below w.heap.size w w' := by
  have HA := Lib.hid (ask_no v none 0 0 w h)
  have HE := Lib.hid hET
  have hq := isErr_ne
  clear h hET
  go_enter Tryz.func27, Tryz.ntmps27
  go_wp2_with (first | (go_at_call 58; refine HA.out.mono ?_; rintro e w1 ⟨b, rfl, hb, hc, hbw⟩) | (go_at_call 40; refine (errno_in HE.out hbw hc).mono ?_; rintro e w2 ⟨rfl, hb2⟩))
  go_ret
  exact ⟨rfl, hb2⟩
set_option maxRecDepth 100000 in
set_option maxHeartbeats 2000000 in
theorem Crash_no (v : Value) (n m : Int) (w : World) (hET : HasET w) (h : NoDisk w v) : Calls Tryz.prog 28 #[v, .int .i64 n, .int .i64 m] w fun e w' => e = .returned (.int .i64 1) ∧ Below w.heap.size w w' := by
  have hb0 : Below w.heap.size w (w.alloc (.cells #[.int .i64 n, .int .i64 m] 3)) := (Below.refl _ w).alloc (Nat.le_refl _) _
  have HA := Lib.hid (ask_no v (some ⟨w.heap.size, 0, none⟩) 2 2 (w.alloc (.cells #[.int .i64 n, .int .i64 m] 3)) (h.keep hb0))
  have HB := Lib.hid hb0
  have HE := Lib.hid hET
  have hq := isErr_ne
  clear h hET hb0
  go_enter Tryz.func28, Tryz.ntmps28
  go_wp2_with (first | (go_at_call 58; refine HA.out.mono ?_; rintro e w1 ⟨b, rfl, hb, hc, hbw⟩; have hb5 := HB.out.trans (hbw.mono HB.out.size)) | (go_at_call 40; refine (errno_in HE.out hb5 hc).mono ?_; rintro e w2 ⟨rfl, hb2⟩))
  go_ret
  exact ⟨rfl, hb2⟩
set_option maxHeartbeats 1000000 in
theorem Loose_no (v : Value) (w : World) (h : NoDisk w v) : Calls Tryz.prog 20 #[v] w fun e w' => e = .returned (.int .i64 0) ∧ Below w.heap.size w w' := by
  have HI := Lib.hid (isNone_no v w h)
  clear h
  go_enter Tryz.func20, Tryz.ntmps20
  go_wp2_with (first | (go_at_call 47; refine HI.out.mono ?_; rintro e w1 ⟨rfl, hb⟩))
  go_ret
  exact ⟨rfl, hb⟩
set_option maxHeartbeats 1000000 in
theorem Left_no (v : Value) (w : World) (h : NoDisk w v) : Calls Tryz.prog 18 #[v] w fun e w' => e = .returned (.int .i64 0) ∧ Below w.heap.size w w' := by
  have HI := Lib.hid (isNone_no v w h)
  clear h
  go_enter Tryz.func18, Tryz.ntmps18
  go_wp2_with (first | (go_at_call 47; refine HI.out.mono ?_; rintro e w1 ⟨rfl, hb⟩))
  go_ret
  exact ⟨rfl, hb⟩
end Go.Proofs.YtbhgcioeibhjeaaGreatDoor
