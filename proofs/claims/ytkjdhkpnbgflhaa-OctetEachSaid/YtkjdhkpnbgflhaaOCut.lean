/-
  Octet: slices of slices of bytes.
-/
import Derived.Test.YtkjdhkpnbgflhaaOREb
import Derived.Test.YtkjdhkpnbgflhaaOBytes
namespace Go.Proofs.Ytkjdhkpnbgflhaa
open Go.RowKit

theorem held_transO {w a b : World} (h : Below w.heap.size w a) (k : Below a.heap.size a b) : Below w.heap.size w b := h.trans (k.mono h.size)
theorem own_none (W : World) (B : Nat) (hB : B ≤ W.heap.size) : (W.alloc (.cells #[] 5)).ownsRow B 5 1 (.slice (some ⟨W.heap.size, 0, none⟩) 0 0) 0 (u8s []) := World.ownsRow_made W #[] 0 hB (by decide) (by simp)
theorem elem_size (W : World) : (sizeOf (Try.prog.elem 22)).run Try.prog W = .ok 1 W := by kernel_rfl
theorem elem_is : Try.prog.underlying 22 = some (.slice (Try.prog.elem 22)) := by kernel_rfl
theorem sl_h (oa : Option Addr) (n cap t : Nat) (W : World) (h : t ≤ cap) : (Instr.sliceAt 22 (.slice oa n cap) none (some (.int .i64 (t : Int))) none).run Try.prog W = .ok (sliced oa 0 t cap 1) W := by
  rw [run_sliceAt_slice W 22 _ _ _ _ elem_is, run_slice_h W 22 oa n cap elem_is .i64 t (by omega) (by omega), elem_size, Int.toNat_natCast]
  rfl
theorem sl_l (oa : Option Addr) (n cap t : Nat) (W : World) (h : t ≤ n) : (Instr.sliceAt 22 (.slice oa n cap) (some (.int .i64 (t : Int))) none none).run Try.prog W = .ok (sliced oa t n cap 1) W := by
  rw [run_sliceAt_slice W 22 _ _ _ _ elem_is, run_slice_l W 22 oa n cap elem_is .i64 t (by omega) (by omega), elem_size, Int.toNat_natCast]
  rfl
theorem sliced_at {w : World} {oa : Option Addr} {cap i k : Nat} {l : List UInt8} (h : BytesAt w (.slice oa l.length cap) l) (hi : i ≤ k) (hk : k ≤ l.length) : BytesAt w (sliced oa i k cap 1) ((l.drop i).take (k - i)) := by
  have h' := h
  obtain ⟨_, _, he, hcap, _⟩ := h'
  cases he
  exact h.cut (by omega) _ (by rw [Nat.mul_one]) (cap - i) (by omega)
end Go.Proofs.Ytkjdhkpnbgflhaa
