/-
  log: bytes that are too many; no log.
-/
import Derived.Test.YtbhgcioeibhjeaaGreatDoorLAsk
import Derived.Test.YtbhgcioeibhjeaaGreatDoorKErr
namespace Go.Proofs.YtbhgcioeibhjeaaGreatDoor
open Go.RowKit

/-- an error that wraps a number -/
def LErr (n : Int) (w : World) : Ending → World → Prop := fun e w' => ∃ b, e = .returned (.iface 144 (.pointer (some ⟨b, 0, none⟩))) ∧ w'.cell? ⟨b, 1, none⟩ = some (.int .i64 n) ∧ Below w.heap.size w w'
set_option maxRecDepth 100000 in
theorem isErr_neL (x : Value) (W : World) : (binOp .neq 86 (.iface 144 x) .nilIface).run Tryz.prog W = .ok (.bool true) W := rfl
theorem of_cell (s : ByteArray) (n : Int) (w : World) : (w.alloc (.cells #[.string s, .int .i64 n] 146)).cell? ⟨w.heap.size, 1, none⟩ = some (.int .i64 n) := by
  have hh := heap_alloc_at w (.cells #[.string s, .int .i64 n] 146)
  simp only [World.cell?]
  rw [hh]
  rfl
set_option maxRecDepth 100000 in
set_option maxHeartbeats 1000000 in
theorem lmayBe_bad (oa : Option Addr) (n cap : Nat) (w : World) (hn : 60000 < n) : Calls Tryz.prog 57 #[.slice oa n cap] w (LErr 3 w) := by
  have hOf := Of_any
  have hc := of_cell
  go_enter Tryz.func57, Tryz.ntmps57
  go_wp2_with (first | (go_at_call 67; refine (hOf _ _ _).mono ?_; rintro e w1 ⟨rfl, rfl⟩))
  go_ret
  exact ⟨_, rfl, of_cell _ _ _, (Below.refl _ w).alloc (Nat.le_refl _) _⟩
set_option maxRecDepth 100000 in
set_option maxHeartbeats 1000000 in
theorem lmayPut_bad (q p : Nat) (f e t : Int) (oa : Option Addr) (n cap : Nat) (w : World) (h : LogC w q p f e t) (hn : 60000 < n) : Calls Tryz.prog 49 #[.pointer (some ⟨q, 0, none⟩), .slice oa n cap] w (LErr 3 w) := by
  have HA := Lib.hid (lask_ok q p f e t w h)
  have HM := Lib.hid (lmayBe_bad oa n cap w hn)
  have hq : ∀ W, (binOp .neq 86 .nilIface .nilIface).run Tryz.prog W = .ok (.bool false) W := fun _ => rfl
  clear h
  go_enter Tryz.func49, Tryz.ntmps49
  go_wp2_with (first | (go_at_call 79; with_reducible refine HA.out.mono ?_; rintro x w1 ⟨rfl, rfl⟩) | (go_at_call 57; refine HM.out.mono ?_; rintro x w1 ⟨b, rfl, hb, hw⟩))
  go_ret
  exact ⟨b, rfl, hb, hw⟩
set_option maxRecDepth 100000 in
set_option maxHeartbeats 1000000 in
theorem Record_bad (oa : Option Addr) (n cap : Nat) (w : World) (hET : HasET w) (hn : 60000 < n) : Calls Tryz.prog 26 #[.slice oa n cap] w fun e w' => e = .returned (.tuple #[.slice none 0 0, .int .i64 3]) ∧ Below w.heap.size w w' := by
  have HM := Lib.hid (lmayBe_bad oa n cap w hn)
  have HE := Lib.hid (fun (w1 : World) (b : Nat) (hw : Below w.heap.size w w1) (hc : w1.cell? ⟨b, 1, none⟩ = some (.int .i64 3)) => errno_err b 3 w1 (hET.below hw hET.lt) hc)
  have hq := isErr_neL
  clear hET
  go_enter Tryz.func26, Tryz.ntmps26
  go_wp2_with (first | (go_at_call 57; refine HM.out.mono ?_; rintro e w1 ⟨b, rfl, hc, hbw⟩) | (go_at_call 40; refine (HE.out w1 b hbw hc).mono ?_; rintro e w2 ⟨rfl, hb2⟩))
  go_ret2
  exact ⟨rfl, hbw.trans (hb2.mono hbw.size)⟩
set_option maxRecDepth 100000 in
set_option maxHeartbeats 1000000 in
theorem lAppend_long (q p : Nat) (f e t : Int) (oa : Option Addr) (n cap : Nat) (w : World) (h : LogC w q p f e t) (hET : HasET w) (hn : 60000 < n) : Calls Tryz.prog 21 #[.pointer (some ⟨q, 0, none⟩), .slice oa n cap] w fun x w' => x = .returned (.tuple #[.int .i64 0, .int .i64 3]) ∧ Below w.heap.size w w' := by
  have HM := Lib.hid (lmayPut_bad q p f e t oa n cap w h hn)
  have HE := Lib.hid (fun (w1 : World) (b : Nat) (hw : Below w.heap.size w w1) (hc : w1.cell? ⟨b, 1, none⟩ = some (.int .i64 3)) => errno_err b 3 w1 (hET.below hw hET.lt) hc)
  have hq := isErr_neL
  clear hET h
  go_enter Tryz.func21, Tryz.ntmps21
  go_wp2_with (first | (go_at_call 49; refine HM.out.mono ?_; rintro e w1 ⟨b, rfl, hc, hbw⟩) | (go_at_call 40; refine (HE.out w1 b hbw hc).mono ?_; rintro e w2 ⟨rfl, hb2⟩))
  go_ret2
  exact ⟨rfl, hbw.trans (hb2.mono hbw.size)⟩
end Go.Proofs.YtbhgcioeibhjeaaGreatDoor
