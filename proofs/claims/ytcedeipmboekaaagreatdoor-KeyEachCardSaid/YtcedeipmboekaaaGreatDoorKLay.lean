/-
  key: tell; layNull, layInt, layUint, layBool.
-/
import Derived.Test.YtcedeipmboekaaaGreatDoorOctA
import Derived.Test.YtcedeipmboekaaaGreatDoorKMap
import Derived.Test.YtcedeipmboekaaaGreatDoorKTurn
import Derived.Test.YtcedeipmboekaaaGreatDoorVVl
namespace Go.Proofs.YtcedeipmboekaaaGreatDoor
open Go.RowKit

/-- it tells these bytes -/
def LayPost (w : World) (l : List UInt8) (e : Ending) (w' : World) : Prop := ∃ v, e = .returned v ∧ BytesOf w' v l ∧ Below w.heap.size w w'
theorem BytesAt.of_ne {w : World} {v : Value} {l : List UInt8} (h : BytesAt w v l) (hl : 0 < l.length) : BytesOf w v l := by
  obtain ⟨oa, cap, rfl, hc, hj⟩ := h
  obtain ⟨a, rfl, _⟩ := hj 0 hl
  exact .inr ⟨a, cap, rfl, hc, fun j h => by
    obtain ⟨a', e, hcell⟩ := hj j h
    cases e
    exact hcell⟩
theorem fixNo_fits (n : Nat) (k : Nat) (h1 : 1 ≤ k) (h8 : k ≤ 8) (hs : sizeOf8 n ≤ k) : fixNo n k = 0 := by
  unfold fixNo
  rw [if_neg (by omega), if_neg (by omega)]
theorem fixL_fits (n : Nat) (k : Nat) (h1 : 1 ≤ k) (h8 : k ≤ 8) (hs : sizeOf8 n ≤ k) : fixL n k = tellL n k := by
  unfold fixL
  rw [fixNo_fits n k h1 h8 hs, if_pos rfl]
  simp
set_option maxRecDepth 100000 in
set_option maxHeartbeats 1000000 in
theorem qtellI_any (i : Int) (n k : Nat) (w : World) (hw : IntKind.u64.wrap i = (n : Int)) (hn : n < 18446744073709551616) (h1 : 1 ≤ k) (h8 : k ≤ 8) (hs : sizeOf8 n ≤ k) :
    Calls Tryz.prog 60 #[.int .i64 i, .int .i64 k] w (LayPost w (tellL n k)) := by
  have HF := Lib.hid (Fixed_any n k w hn)
  rw [fixNo_fits n k h1 h8 hs, fixL_fits n k h1 h8 hs] at HF
  have hl := tellL_length n k
  clear hs hn
  go_enter Tryz.func60, Tryz.ntmps60
  go_wp2_with fail
  refine HF.out.mono ?_
  rintro e w1 ⟨v, rfl, hv, hb⟩
  have HV := Lib.hid (hv.of_ne (by omega))
  have HB := Lib.hid hb
  clear hv hb
  go_wp2_with fail
  go_ret
  exact ⟨v, rfl, HV.out, HB.out⟩
set_option maxRecDepth 100000 in
set_option maxHeartbeats 1000000 in
theorem qtellK_any (i : Int) (n k : Nat) (w : World) (hw : IntKind.u64.wrap i = (n : Int)) (hn : n < 18446744073709551616) (h1 : 1 ≤ k) (h8 : k ≤ 8) (hs : sizeOf8 n ≤ k) :
    Calls Tryz.prog 23 #[.int .i64 i, .int .i64 k] w (LayPost w (tellL n k)) := by
  have HF := Lib.hid (Fixed_any n k w hn)
  rw [fixNo_fits n k h1 h8 hs, fixL_fits n k h1 h8 hs] at HF
  have hl := tellL_length n k
  clear hs hn
  go_enter Tryz.func23, Tryz.ntmps23
  go_wp2_with fail
  refine HF.out.mono ?_
  rintro e w1 ⟨v, rfl, hv, hb⟩
  have HV := Lib.hid (hv.of_ne (by omega))
  have HB := Lib.hid hb
  clear hv hb
  go_wp2_with fail
  go_ret
  exact ⟨v, rfl, HV.out, HB.out⟩
set_option maxHeartbeats 1000000 in
theorem qlayNull_any (k i u : Int) (s : ByteArray) (w : World) : Calls Tryz.prog 41 #[.agg #[.int .i64 k, .int .i64 i, .int .u64 u, .string s]] w (LayPost w []) := by
  go_enter Tryz.func41, Tryz.ntmps41
  go_wp2_with fail
  go_ret
  exact ⟨_, rfl, .inl ⟨rfl, rfl⟩, (Below.refl _ _).alloc (Nat.le_refl _) _⟩
set_option maxRecDepth 100000 in
set_option maxHeartbeats 1000000 in
theorem qlayInt_any (k i u : Int) (s : ByteArray) (w : World) (h0 : -9223372036854775808 ≤ i) (h1 : i ≤ 9223372036854775807) :
    Calls Tryz.prog 43 #[.agg #[.int .i64 k, .int .i64 i, .int .u64 u, .string s]] w (LayPost w (tellL ((i + 9223372036854775808) % 18446744073709551616).toNat 8)) := by
  have hx := bits_turn i h0 h1
  have C := fun w => qtellI_any (turnI i) _ 8 w (turn_u64 i h0 h1) (by omega) (by decide) (by decide) (sizeOf8_le _ (by omega))
  generalize turnI i = j at *
  have HC := Lib.hid C
  clear C h0 h1
  go_enter Tryz.func43, Tryz.ntmps43
  go_wp2_with fail
  refine (HC.out _).mono ?_
  rintro e w1 ⟨v, rfl, hv, hb⟩
  have HV := Lib.hid hv
  have HB := Lib.hid hb
  clear hv hb
  go_wp2_with fail
  go_ret
  exact ⟨v, rfl, HV.out, ((Below.refl _ _).alloc (Nat.le_refl _) _).trans (HB.out.mono (by simp))⟩
set_option maxRecDepth 100000 in
set_option maxHeartbeats 1000000 in
theorem qlayUint_any (k i : Int) (u : Nat) (s : ByteArray) (w : World) (hu : u < 18446744073709551616) :
    Calls Tryz.prog 45 #[.agg #[.int .i64 k, .int .i64 i, .int .u64 u, .string s]] w (LayPost w (numB u)) := by
  have HC := Lib.hid (fun w => Number_any u w hu)
  have hl := numB_length u
  clear hu
  go_enter Tryz.func45, Tryz.ntmps45
  go_wp2_with fail
  refine (HC.out _).mono ?_
  rintro e w1 ⟨v, rfl, hv⟩
  have HV := Lib.hid (hv.at.1.of_ne (by omega))
  have HB := Lib.hid hv.at.2
  clear hv
  go_wp2_with fail
  go_ret
  exact ⟨v, rfl, HV.out, ((Below.refl _ _).alloc (Nat.le_refl _) _).trans (HB.out.mono (by simp))⟩
set_option maxRecDepth 100000 in
set_option maxHeartbeats 1000000 in
theorem qlayBool_any (k u : Int) (i : Nat) (s : ByteArray) (w : World) (hi : i ≤ 1) :
    Calls Tryz.prog 47 #[.agg #[.int .i64 k, .int .i64 i, .int .u64 u, .string s]] w (LayPost w [UInt8.ofNat i]) := by
  have C := fun w => qtellI_any i i 1 w (by rw [IntKind.wrap_u64]; omega) (by omega) (by decide) (by decide) (by rcases (show i = 0 ∨ i = 1 by omega) with rfl | rfl <;> decide)
  rw [show tellL i 1 = [UInt8.ofNat i] by simp [tellL, byteAt]] at C
  have HC := Lib.hid C
  clear C
  go_enter Tryz.func47, Tryz.ntmps47
  go_wp2_with fail
  refine (HC.out _).mono ?_
  rintro e w1 ⟨v, rfl, hv, hb⟩
  have HV := Lib.hid hv
  have HB := Lib.hid hb
  clear hv hb
  go_wp2_with fail
  go_ret
  exact ⟨v, rfl, HV.out, ((Below.refl _ _).alloc (Nat.le_refl _) _).trans (HB.out.mono (by simp))⟩
end Go.Proofs.YtcedeipmboekaaaGreatDoor
