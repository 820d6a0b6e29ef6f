/-
  disk: what is told of none.
-/
import Derived.Test.YtgalokddbokkeaaGreatDoorDWorksB
namespace Go.Proofs.YtgalokddbokkeaaGreatDoor
open Go.RowKit

theorem NoDisk.keep {w w' : World} {v : Value} (h : NoDisk w v) (hb : Below w.heap.size w w') : NoDisk w' v := by
  rcases h with h | ⟨p, e, h⟩
  · exact .inl h
  · exact .inr ⟨p, e, by rw [hb.cell (World.block_lt_of_cell? w _ h)]; exact h⟩
theorem errno_in {w w1 : World} (hET : HasET w) {b : Nat} {n : Int} (hw : Below w.heap.size w w1) (hc : w1.cell? ⟨b, 1, none⟩ = some (.int .i64 n)) : Calls Tryz.prog 20 #[.iface 88 (.pointer (some ⟨b, 0, none⟩))] w1 fun e w' => e = .returned (.int .i64 n) ∧ Below w.heap.size w w' :=
  (errno_err b n w1 (hET.below hw hET.lt) hc).mono fun _ _ ⟨e, hb⟩ => ⟨e, hw.trans (hb.mono hw.size)⟩
set_option maxRecDepth 100000 in
set_option maxHeartbeats 2000000 in
theorem Read_no (v : Value) (f : Int) (w : World) (hET : HasET w) (h : NoDisk w v) : Calls Tryz.prog 6 #[v, .int .i64 f] w fun e w' => e = .returned (.tuple #[.slice none 0 0, .int .i64 1]) ∧ Below w.heap.size w w' := by
  have HA := Lib.hid (askFile_no v f none 0 0 w h)
  have HE := Lib.hid hET
  have hq := isErr_ne
  clear h hET
  go_enter Tryz.func6, Tryz.ntmps6
  go_wp2_with (first | (go_at_call 19; refine HA.out.mono ?_; rintro e w1 ⟨b, rfl, hb, hc, hbw⟩) | (go_at_call 20; refine (errno_in HE.out hbw hc).mono ?_; rintro e w2 ⟨rfl, hb2⟩))
  go_ret2
  exact ⟨rfl, hb2⟩
set_option maxRecDepth 100000 in
set_option maxHeartbeats 2000000 in
theorem mayPut_no (v : Value) (f m : Int) (w : World) (h : NoDisk w v) : Calls Tryz.prog 26 #[v, .int .i64 f, .int .i64 m] w (IsErr 1 w) := by
  have HA := Lib.hid (askFile_no v f none 0 0 w h)
  have hq := isErr_err
  clear h
  go_enter Tryz.func26, Tryz.ntmps26
  go_wp2_with (first | (go_at_call 19; refine HA.out.mono ?_; rintro e w1 ⟨b, rfl, hb, hc, hbw⟩))
  go_ret
  exact ⟨b, rfl, hb, hc, hbw⟩
set_option maxRecDepth 100000 in
set_option maxHeartbeats 2000000 in
theorem mayCut_no (v : Value) (f m : Int) (w : World) (h : NoDisk w v) : Calls Tryz.prog 29 #[v, .int .i64 f, .int .i64 m] w (IsErr 1 w) := by
  have hb0 : Below w.heap.size w (w.alloc (.cells #[.int .i64 m] 3)) := (Below.refl _ w).alloc (Nat.le_refl _) _
  have HA := Lib.hid (askFile_no v f (some ⟨w.heap.size, 0, none⟩) 1 1 (w.alloc (.cells #[.int .i64 m] 3)) (h.keep hb0))
  have HB := Lib.hid hb0
  have hq := isErr_err
  clear h hb0
  go_enter Tryz.func29, Tryz.ntmps29
  go_wp2_with (first | (go_at_call 19; refine HA.out.mono ?_; rintro e w1 ⟨b, rfl, hb, hc, hbw⟩))
  go_ret
  exact isErr_below HB.out ⟨b, rfl, hb, hc, hbw⟩
set_option maxRecDepth 100000 in
set_option maxHeartbeats 2000000 in
theorem Append_no (v : Value) (f : Int) (oa : Option Addr) (n c : Nat) (w : World) (hET : HasET w) (h : NoDisk w v) : Calls Tryz.prog 10 #[v, .int .i64 f, .slice oa n c] w fun e w' => e = .returned (.int .i64 1) ∧ Below w.heap.size w w' := by
  have HA := Lib.hid (mayPut_no v f n w h)
  have HE := Lib.hid hET
  have hq := isErr_ne
  clear h hET
  go_enter Tryz.func10, Tryz.ntmps10
  go_wp2_with (first | (go_at_call 26; refine HA.out.mono ?_; rintro e w1 ⟨b, rfl, hb, hc, hbw⟩) | (go_at_call 20; refine (errno_in HE.out hbw hc).mono ?_; rintro e w2 ⟨rfl, hb2⟩))
  go_ret
  exact ⟨rfl, hb2⟩
set_option maxRecDepth 100000 in
set_option maxHeartbeats 2000000 in
theorem Cut_no (v : Value) (f m : Int) (w : World) (hET : HasET w) (h : NoDisk w v) : Calls Tryz.prog 11 #[v, .int .i64 f, .int .i64 m] w fun e w' => e = .returned (.int .i64 1) ∧ Below w.heap.size w w' := by
  have HA := Lib.hid (mayCut_no v f m w h)
  have HE := Lib.hid hET
  have hq := isErr_ne
  clear h hET
  go_enter Tryz.func11, Tryz.ntmps11
  go_wp2_with (first | (go_at_call 29; refine HA.out.mono ?_; rintro e w1 ⟨b, rfl, hb, hc, hbw⟩) | (go_at_call 20; refine (errno_in HE.out hbw hc).mono ?_; rintro e w2 ⟨rfl, hb2⟩))
  go_ret
  exact ⟨rfl, hb2⟩
set_option maxRecDepth 100000 in
set_option maxHeartbeats 2000000 in
theorem Sync_no (v : Value) (w : World) (hET : HasET w) (h : NoDisk w v) : Calls Tryz.prog 12 #[v] w fun e w' => e = .returned (.int .i64 1) ∧ Below w.heap.size w w' := by
  have HA := Lib.hid (ask_no v none 0 0 w h)
  have HE := Lib.hid hET
  have hq := isErr_ne
  clear h hET
  go_enter Tryz.func12, Tryz.ntmps12
  go_wp2_with (first | (go_at_call 31; refine HA.out.mono ?_; rintro e w1 ⟨b, rfl, hb, hc, hbw⟩) | (go_at_call 20; refine (errno_in HE.out hbw hc).mono ?_; rintro e w2 ⟨rfl, hb2⟩))
  go_ret
  exact ⟨rfl, hb2⟩
set_option maxRecDepth 100000 in
set_option maxHeartbeats 2000000 in
theorem Crash_no (v : Value) (n m : Int) (w : World) (hET : HasET w) (h : NoDisk w v) : Calls Tryz.prog 13 #[v, .int .i64 n, .int .i64 m] w fun e w' => e = .returned (.int .i64 1) ∧ Below w.heap.size w w' := by
  have hb0 : Below w.heap.size w (w.alloc (.cells #[.int .i64 n, .int .i64 m] 3)) := (Below.refl _ w).alloc (Nat.le_refl _) _
  have HA := Lib.hid (ask_no v (some ⟨w.heap.size, 0, none⟩) 2 2 (w.alloc (.cells #[.int .i64 n, .int .i64 m] 3)) (h.keep hb0))
  have HB := Lib.hid hb0
  have HE := Lib.hid hET
  have hq := isErr_ne
  clear h hET hb0
  go_enter Tryz.func13, Tryz.ntmps13
  go_wp2_with (first | (go_at_call 31; refine HA.out.mono ?_; rintro e w1 ⟨b, rfl, hb, hc, hbw⟩; have hb5 := HB.out.trans (hbw.mono HB.out.size)) | (go_at_call 20; refine (errno_in HE.out hb5 hc).mono ?_; rintro e w2 ⟨rfl, hb2⟩))
  go_ret
  exact ⟨rfl, hb2⟩
set_option maxHeartbeats 1000000 in
theorem Loose_no (v : Value) (w : World) (h : NoDisk w v) : Calls Tryz.prog 14 #[v] w fun e w' => e = .returned (.int .i64 0) ∧ Below w.heap.size w w' := by
  have HI := Lib.hid (isNone_no v w h)
  clear h
  go_enter Tryz.func14, Tryz.ntmps14
  go_wp2_with (first | (go_at_call 22; refine HI.out.mono ?_; rintro e w1 ⟨rfl, hb⟩))
  go_ret
  exact ⟨rfl, hb⟩
set_option maxHeartbeats 1000000 in
theorem Left_no (v : Value) (w : World) (h : NoDisk w v) : Calls Tryz.prog 15 #[v] w fun e w' => e = .returned (.int .i64 0) ∧ Below w.heap.size w w' := by
  have HI := Lib.hid (isNone_no v w h)
  clear h
  go_enter Tryz.func15, Tryz.ntmps15
  go_wp2_with (first | (go_at_call 22; refine HI.out.mono ?_; rintro e w1 ⟨rfl, hb⟩))
  go_ret
  exact ⟨rfl, hb⟩
set_option maxHeartbeats 1000000 in
theorem Copy_no (v : Value) (w : World) (h : NoDisk w v) : Calls Tryz.prog 16 #[v] w fun e w' => e = .returned (.pointer none) ∧ Below w.heap.size w w' := by
  have HI := Lib.hid (isNone_no v w h)
  clear h
  go_enter Tryz.func16, Tryz.ntmps16
  go_wp2_with (first | (go_at_call 22; refine HI.out.mono ?_; rintro e w1 ⟨rfl, hb⟩))
  go_ret
  exact ⟨rfl, hb⟩
set_option maxRecDepth 100000 in
set_option maxHeartbeats 2000000 in
theorem Same_nn (v : Value) (w : World) (h : NoDisk w v) : Calls Tryz.prog 17 #[v, .pointer none] w fun e w' => e = .returned (.bool true) ∧ Below w.heap.size w w' := by
  have HI := Lib.hid (fun W (hb : Below w.heap.size w W) => isNone_no v W (h.keep hb))
  have HN := Lib.hid (fun W => isNone_no (.pointer none) W (.inl rfl))
  clear h
  have hr0 := Below.refl w.heap.size w
  go_enter Tryz.func17, Tryz.ntmps17
  go_wp2_with (first | (go_at_call 22; refine (HI.out w hr0).mono ?_; rintro e w1 ⟨rfl, hb1⟩) | (go_at_call 22; with_reducible refine (HI.out w1 hb1).mono ?_; rintro e w2 ⟨rfl, hb2⟩; have hb3 := hb1.trans (hb2.mono hb1.size)) | (go_at_call 22; refine (HN.out w2).mono ?_; rintro e w4 ⟨rfl, hb4⟩))
  go_ret
  exact ⟨rfl, hb3.trans (hb4.mono hb3.size)⟩
set_option maxRecDepth 100000 in
set_option maxHeartbeats 2000000 in
theorem Same_dn (p m : Nat) (v : Value) (w : World) (hd : IsDisk w p m) (h : NoDisk w v) : Calls Tryz.prog 17 #[.pointer (some ⟨p, 0, none⟩), v] w fun e w' => e = .returned (.bool false) ∧ Below w.heap.size w w' := by
  have HD := Lib.hid (fun W (hb : Below w.heap.size w W) => isNone_ok p m W (by unfold IsDisk at hd ⊢; rw [hb.cell (World.block_lt_of_cell? w _ hd)]; exact hd))
  have HI := Lib.hid (isNone_no v w h)
  have hr0 := Below.refl w.heap.size w
  clear h hd
  go_enter Tryz.func17, Tryz.ntmps17
  go_wp2_with (first | (go_at_call 22; refine (HD.out w hr0).mono ?_; rintro e w1 ⟨rfl, rfl⟩) | (go_at_call 22; refine HI.out.mono ?_; rintro e w2 ⟨rfl, hb2⟩) | (go_at_call 22; refine (HD.out w2 hb2).mono ?_; rintro e w3 ⟨rfl, rfl⟩))
  go_ret
  exact ⟨rfl, hb2⟩
end Go.Proofs.YtgalokddbokkeaaGreatDoor
