/-
  The highest bit turned over: pure facts.
-/
import Derived.Laws.Bits64
namespace Go.Proofs.YtcedeipmboekaaaGreatDoor

theorem xor_top_lt (a : Nat) (h : a < 2 ^ 63) : a ^^^ 2 ^ 63 = 2 ^ 63 + a := by
  apply Nat.eq_of_testBit_eq
  intro j
  rw [Nat.testBit_xor, Nat.testBit_two_pow]
  rcases Nat.lt_trichotomy j 63 with hj | rfl | hj
  · rw [Nat.testBit_two_pow_add_gt hj]
    have : ¬ 63 = j := by omega
    simp [this]
  · rw [Nat.testBit_two_pow_add_eq, Nat.testBit_lt_two_pow h]
    simp
  · have h1 : 2 ^ 63 + a < 2 ^ j := by
      have : 2 ^ 64 ≤ 2 ^ j := Nat.pow_le_pow_right (by decide) hj
      omega
    rw [Nat.testBit_lt_two_pow h1, Nat.testBit_lt_two_pow (x := a) (by omega)]
    have : ¬ 63 = j := by omega
    simp [this]
theorem xor_top_ge (a : Nat) (h : 2 ^ 63 ≤ a) (h2 : a < 2 ^ 64) : a ^^^ 2 ^ 63 = a - 2 ^ 63 := by
  obtain ⟨b, rfl⟩ : ∃ b, a = 2 ^ 63 + b := ⟨a - 2 ^ 63, by omega⟩
  rw [← xor_top_lt b (by omega), Nat.xor_assoc, Nat.xor_self, Nat.xor_zero, xor_top_lt b (by omega)]
  omega
/-- turned over -/
def turnI (i : Int) : Int := if i < 0 then i + 9223372036854775808 else i - 9223372036854775808
theorem bits_turn (i : Int) (h0 : -9223372036854775808 ≤ i) (h1 : i ≤ 9223372036854775807) : bits .xor .i64 i (-9223372036854775808) = turnI i := by
  show IntKind.i64.wrap ((BitVec.ofInt 64 i ^^^ BitVec.ofInt 64 (-9223372036854775808)).toNat : Int) = _
  rw [BitVec.toNat_xor, show (BitVec.ofInt 64 (-9223372036854775808)).toNat = 2 ^ 63 by decide, BitVec.toNat_ofInt]
  unfold turnI
  have e : ∀ n : Nat, n < 2 ^ 64 → IntKind.i64.wrap (n : Int) = if n < 2 ^ 63 then (n : Int) else (n : Int) - 2 ^ 64 := by
    intro n hn
    simp [IntKind.wrap, IntKind.bits, IntKind.signed]
    split <;> split <;> omega
  by_cases hi : i < 0
  · rw [if_pos hi]
    have hn : (i % (2 ^ 64 : Nat)).toNat = (i + 18446744073709551616).toNat := by omega
    rw [hn, xor_top_ge _ (by omega) (by omega), e _ (by omega), if_pos (by omega)]
    omega
  · rw [if_neg hi]
    have hn : (i % (2 ^ 64 : Nat)).toNat = i.toNat := by omega
    rw [hn, xor_top_lt _ (by omega), e _ (by omega), if_neg (by omega)]
    omega
theorem turn_u64 (i : Int) (h0 : -9223372036854775808 ≤ i) (h1 : i ≤ 9223372036854775807) : IntKind.u64.wrap (turnI i) = (((i + 9223372036854775808) % 18446744073709551616).toNat : Nat) := by
  rw [IntKind.wrap_u64]
  unfold turnI
  split <;> omega
theorem turn_back (n : Nat) (h : n < 18446744073709551616) : turnI (IntKind.i64.wrap (n : Int)) = (n : Int) - 9223372036854775808 := by
  simp only [IntKind.wrap, IntKind.bits, IntKind.signed, turnI]
  simp
  split <;> split <;> omega
end Go.Proofs.YtcedeipmboekaaaGreatDoor
