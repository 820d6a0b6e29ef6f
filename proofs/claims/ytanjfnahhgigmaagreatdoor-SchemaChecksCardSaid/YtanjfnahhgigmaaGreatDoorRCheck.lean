/-
  swingbridgeref01.Check: the same number, 'chk'.
-/
import Derived.Test.YtanjfnahhgigmaaGreatDoorCheck
namespace Go.Proofs.YtanjfnahhgigmaaGreatDoor
open Go.RowKit

theorem toList_nil (s : ByteArray) (h : s.toList = []) : s = ⟨#[]⟩ := by
  rw [ByteArray.toList_eq] at h
  obtain ⟨⟨l⟩⟩ := s
  simp at h
  subst h
  rfl
theorem emptyZ : (((⟨#[]⟩ : ByteArray).size : Nat) : Int) ≤ 200 := by decide
theorem chk0 : chk 0 0 0 ⟨#[]⟩ = 0 := by simp [chk, vEqB, onlyI, onlyU, onlyS, emptyZ]
theorem chk30 : chk 3 0 0 ⟨#[]⟩ = 0 := by simp [chk, vEqB, onlyI, onlyU, onlyS, emptyZ, show bits BinOp.and .i64 0 1 = 0 from rfl]
theorem chk31 : chk 3 1 0 ⟨#[]⟩ = 0 := by simp [chk, vEqB, onlyI, onlyU, onlyS, emptyZ, show bits BinOp.and .i64 1 1 = 1 from rfl]
theorem and_one (i : Int) (h0 : i ≠ 0) (h1 : i ≠ 1) : bits BinOp.and .i64 i 1 ≠ i := by
  intro h
  have hb : bits BinOp.and .i64 i 1 = 0 ∨ bits BinOp.and .i64 i 1 = 1 := by
    show IntKind.i64.wrap ((BitVec.ofInt 64 i &&& BitVec.ofInt 64 1).toNat : Int) = 0 ∨ IntKind.i64.wrap ((BitVec.ofInt 64 i &&& BitVec.ofInt 64 1).toNat : Int) = 1
    have h1 : (BitVec.ofInt 64 1).toNat = 1 := by decide
    rw [BitVec.toNat_and, h1, Nat.and_one_is_mod]
    have h2 : (BitVec.ofInt 64 i).toNat % 2 = 0 ∨ (BitVec.ofInt 64 i).toNat % 2 = 1 := by omega
    rcases h2 with h2 | h2
    · rw [h2]; left; rfl
    · rw [h2]; right; rfl
  rcases hb with hb | hb <;> omega

end Go.Proofs.YtanjfnahhgigmaaGreatDoor
