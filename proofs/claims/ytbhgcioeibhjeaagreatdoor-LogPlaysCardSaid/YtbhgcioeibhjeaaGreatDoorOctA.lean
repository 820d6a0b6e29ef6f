/-
  octet: numbers, texts, bytes in memory; and swingbridgeref02's.
-/
import Derived.Lib.ItoaNum
import Derived.Laws.BitsAllLaws
import Derived.Laws.Strings
import Derived.Test.YtbhgcioeibhjeaaGreatDoorBasK
import Derived.Test.YtbhgcioeibhjeaaGreatDoorShelf
import Derived.Deep.DeepAppendRoom
import Derived.Deep.AppendLies
import Derived.OneCell
import Derived.RangeFuncBox
import Derived.OwnWalk
import Derived.Handy
import Derived.Lib.AppendStr
import Derived.Lib.SmallJoins
import Derived.DataElems
import Derived.Carry
import Derived.ScopeJumps
import Derived.WalkMore
import Derived.Lib.SlBytesConst
import Derived.Laws.AppendOwnNone
import Derived.Deep.OwnRows
namespace Go.Proofs.YtbhgcioeibhjeaaGreatDoor

/-- the bytes of n, k of them, the highest first -/
def byteAt (n k : Nat) : UInt8 := UInt8.ofNat (n / 256 ^ k)
def tellL (n : Nat) : Nat → List UInt8
  | 0 => []
  | k + 1 => byteAt n k :: tellL n k
theorem tellL_length (n : Nat) : ∀ k, (tellL n k).length = k
  | 0 => rfl
  | k + 1 => by simp [tellL, tellL_length n k]
theorem byteAt_toNat (n k : Nat) : (byteAt n k).toNat = n / 256 ^ k % 256 := by
  unfold byteAt
  rw [UInt8.toNat_ofNat']
/-- how many bytes n needs -/
def sizeOf8 (n : Nat) : Nat := (Lib.bitLen n + 7) / 8
theorem sizeOf8_zero : sizeOf8 0 = 0 := by
  unfold sizeOf8 Lib.bitLen
  rw [Lib.bitLenAux_zero]
theorem pow256 (k : Nat) : 256 ^ k = 2 ^ (8 * k) := by rw [Nat.pow_mul]
theorem sizeOf8_bd (n : Nat) (h : n < 18446744073709551616) (h0 : n ≠ 0) : 1 ≤ sizeOf8 n ∧ 256 ^ (sizeOf8 n - 1) ≤ n ∧ n < 256 ^ sizeOf8 n := by
  obtain ⟨a, b, c⟩ := Lib.bitLenAux_bounds 64 n h h0
  unfold sizeOf8 Lib.bitLen
  generalize Lib.bitLenAux 64 n = L at a b c ⊢
  refine ⟨by omega, ?_, ?_⟩
  · rw [pow256]
    exact Nat.le_trans (Nat.pow_le_pow_right (by decide) (by omega)) b
  · rw [pow256]
    exact Nat.lt_of_lt_of_le c (Nat.pow_le_pow_right (by decide) (by omega))
theorem sizeOf8_lt (n : Nat) (h : n < 18446744073709551616) : n < 256 ^ sizeOf8 n := by
  by_cases h0 : n = 0
  · subst h0; rw [sizeOf8_zero]; decide
  · exact (sizeOf8_bd n h h0).2.2
theorem sizeOf8_le (n : Nat) (h : n < 18446744073709551616) : sizeOf8 n ≤ 8 := by
  have := Lib.bitLen_le n 64 (Nat.le_refl _) h
  unfold sizeOf8
  omega
/-- what needs at most k bytes is below 256^k -/
theorem sizeOf8_le_iff (n k : Nat) (h : n < 18446744073709551616) : sizeOf8 n ≤ k ↔ n < 256 ^ k := by
  constructor
  · intro hk
    exact Nat.lt_of_lt_of_le (sizeOf8_lt n h) (Nat.pow_le_pow_right (by decide) hk)
  · intro hk
    by_cases h0 : n = 0
    · subst h0; rw [sizeOf8_zero]; omega
    · obtain ⟨a, b, _⟩ := sizeOf8_bd n h h0
      rcases Nat.lt_or_ge k (sizeOf8 n) with hl | hl
      · have := Nat.pow_le_pow_right (n := 256) (by decide) (show k ≤ sizeOf8 n - 1 by omega)
        omega
      · exact hl
theorem sizeOf8_mono (m n : Nat) (hn : n < 18446744073709551616) (h : m ≤ n) : sizeOf8 m ≤ sizeOf8 n :=
  (sizeOf8_le_iff m _ (by omega)).2 (Nat.lt_of_le_of_lt h (sizeOf8_lt n hn))

/-- the number of bytes, the highest first, behind a -/
def valOf (l : List UInt8) (a : Nat) : Nat := l.foldl (fun n x => n * 256 + x.toNat) a
theorem valOf_tell (n : Nat) : ∀ k a, valOf (tellL n k) a = a * 256 ^ k + n % 256 ^ k
  | 0, a => by simp [tellL, valOf, Nat.mod_one]
  | k + 1, a => by
    show valOf (tellL n k) (a * 256 + (byteAt n k).toNat) = _
    rw [valOf_tell n k, byteAt_toNat, Nat.pow_succ, Nat.mod_mul, Nat.add_mul, Nat.mul_assoc, Nat.mul_comm 256 (256 ^ k), Nat.mul_comm (n / 256 ^ k % 256)]
    omega
theorem valOf_size (n : Nat) (h : n < 18446744073709551616) : valOf (tellL n (sizeOf8 n)) 0 = n := by
  rw [valOf_tell, Nat.mod_eq_of_lt (sizeOf8_lt n h)]; omega
theorem valOf_lt : ∀ (l : List UInt8) (a : Nat), valOf l a < (a + 1) * 256 ^ l.length
  | [], a => by simp [valOf]
  | x :: l, a => by
    have h := valOf_lt l (a * 256 + x.toNat)
    have hx := x.toNat_lt
    show valOf l (a * 256 + x.toNat) < _
    rw [List.length_cons, Nat.pow_succ]
    refine Nat.lt_of_lt_of_le h ?_
    rw [show (a + 1) * (256 ^ l.length * 256) = ((a + 1) * 256) * 256 ^ l.length by rw [Nat.mul_comm (256 ^ l.length) 256, Nat.mul_assoc]]
    exact Nat.mul_le_mul_right _ (by omega)
theorem valOf_lt8 (l : List UInt8) (h : l.length ≤ 8) : valOf l 0 < 18446744073709551616 := by
  have h1 := valOf_lt l 0
  have h2 := Nat.pow_le_pow_right (n := 256) (by decide) h
  have : (256 : Nat) ^ 8 = 18446744073709551616 := by decide
  omega
theorem valOf_snoc (l : List UInt8) (x : UInt8) (a : Nat) : valOf (l ++ [x]) a = valOf l a * 256 + x.toNat := by
  unfold valOf; rw [List.foldl_append]; rfl
/-- bytes of a value are its bytes -/
theorem tell_valOf : ∀ (l : List UInt8) (a : Nat), tellL (valOf l a) l.length = l
  | [], _ => rfl
  | x :: l, a => by
    have h := tell_valOf l (a * 256 + x.toNat)
    show byteAt (valOf l (a * 256 + x.toNat)) l.length :: tellL (valOf l (a * 256 + x.toNat)) l.length = x :: l
    rw [h]
    congr 1
    apply UInt8.toNat_inj.1
    rw [byteAt_toNat]
    have key : valOf l (a * 256 + x.toNat) / 256 ^ l.length = a * 256 + x.toNat := by
      have h1 := valOf_lt l (a * 256 + x.toNat)
      have h2 : (a * 256 + x.toNat) * 256 ^ l.length ≤ valOf l (a * 256 + x.toNat) := by
        generalize a * 256 + x.toNat = c
        clear h h1
        induction l generalizing c with
        | nil => simp [valOf]
        | cons y l ih =>
          have := ih (c * 256 + y.toNat)
          show _ ≤ valOf l (c * 256 + y.toNat)
          refine Nat.le_trans ?_ this
          rw [List.length_cons, Nat.pow_succ, Nat.mul_comm (256 ^ l.length) 256, ← Nat.mul_assoc]
          exact Nat.mul_le_mul_right _ (by omega)
      exact Nat.div_eq_of_lt_le h2 h1
    rw [key]
    have := x.toNat_lt
    omega

/-- a number's bytes -/
def numB (n : Nat) : List UInt8 := UInt8.ofNat (sizeOf8 n) :: tellL n (sizeOf8 n)
theorem numB_length (n : Nat) : (numB n).length = 1 + sizeOf8 n := by simp [numB, tellL_length]; omega
theorem numB_head (n : Nat) (h : n < 18446744073709551616) : (UInt8.ofNat (sizeOf8 n)).toNat = sizeOf8 n := by
  have := sizeOf8_le n h
  rw [UInt8.toNat_ofNat']; omega
theorem tell_head (n : Nat) (h : n < 18446744073709551616) (h0 : n ≠ 0) : byteAt n (sizeOf8 n - 1) ≠ 0 := by
  obtain ⟨a, b, c⟩ := sizeOf8_bd n h h0
  intro hz
  have h1 := byteAt_toNat n (sizeOf8 n - 1)
  rw [hz] at h1
  have h2 : n / 256 ^ (sizeOf8 n - 1) < 256 := by
    rw [Nat.div_lt_iff_lt_mul (Nat.pow_pos (by decide)), Nat.mul_comm, ← Nat.pow_succ, show (sizeOf8 n - 1).succ = sizeOf8 n by omega]
    exact c
  have h3 : 0 < n / 256 ^ (sizeOf8 n - 1) := Nat.div_pos b (Nat.pow_pos (by decide))
  rw [Nat.mod_eq_of_lt h2] at h1
  have h4 : (0 : UInt8).toNat = 0 := rfl
  omega

/-- the number with whose bytes l begins, and how many these are -/
def readN : List UInt8 → Option (Nat × Nat)
  | [] => none
  | h :: t => if h.toNat ≤ 8 ∧ h.toNat ≤ t.length ∧ ¬ (0 < h.toNat ∧ t.head? = some 0) then some (valOf (t.take h.toNat) 0, 1 + h.toNat) else none
theorem readN_cons (h : UInt8) (t : List UInt8) : readN (h :: t) = if h.toNat ≤ 8 ∧ h.toNat ≤ t.length ∧ ¬ (0 < h.toNat ∧ t.head? = some 0) then some (valOf (t.take h.toNat) 0, 1 + h.toNat) else none := rfl
theorem readN_numB (n : Nat) (l : List UInt8) (h : n < 18446744073709551616) : readN (numB n ++ l) = some (n, 1 + sizeOf8 n) := by
  have h8 := sizeOf8_le n h
  show readN (UInt8.ofNat (sizeOf8 n) :: (tellL n (sizeOf8 n) ++ l)) = _
  rw [readN_cons, numB_head n h, if_pos]
  · rw [List.take_left' (tellL_length n _), valOf_size n h]
  · refine ⟨h8, by simp [tellL_length], ?_⟩
    rintro ⟨hp, hh⟩
    have h0 : n ≠ 0 := by rintro rfl; rw [sizeOf8_zero] at hp; omega
    have hd := tell_head n h h0
    obtain ⟨k, hk⟩ : ∃ k, sizeOf8 n = k + 1 := ⟨sizeOf8 n - 1, by omega⟩
    rw [hk] at hh hd
    simp [tellL] at hh
    exact hd hh
theorem readN_lt {l : List UInt8} {n k : Nat} (h : readN l = some (n, k)) : n < 18446744073709551616 ∧ 1 ≤ k ∧ k ≤ 9 ∧ k ≤ l.length := by
  cases l with
  | nil => simp [readN] at h
  | cons c t =>
    rw [readN_cons] at h
    split at h
    · rename_i hc
      simp only [Option.some.injEq, Prod.mk.injEq] at h
      obtain ⟨rfl, rfl⟩ := h
      refine ⟨valOf_lt8 _ (by rw [List.length_take]; omega), by omega, by omega, ?_⟩
      simp; omega
    · cases h

/-- the numbers' bytes stand in their order -/
theorem bytesLess_cons (a b : UInt8) (x y : List UInt8) : Op.bytesLess (a :: x) (b :: y) = (decide (a < b) || (a == b && Op.bytesLess x y)) := rfl
theorem tell_less (m n : Nat) : ∀ k, m < 256 ^ k → n < 256 ^ k → Op.bytesLess (tellL m k) (tellL n k) = decide (m % 256 ^ k < n % 256 ^ k) := by
  intro k hm hn
  have key : ∀ k, Op.bytesLess (tellL m k) (tellL n k) = decide (m % 256 ^ k < n % 256 ^ k) := by
    intro k
    induction k with
    | zero => simp [tellL, Op.bytesLess, Nat.mod_one]
    | succ k ih =>
      show Op.bytesLess (byteAt m k :: tellL m k) (byteAt n k :: tellL n k) = _
      rw [bytesLess_cons, ih, Nat.pow_succ, Nat.mod_mul, Nat.mod_mul]
      have e1 : (byteAt m k < byteAt n k) ↔ m / 256 ^ k % 256 < n / 256 ^ k % 256 := by rw [UInt8.lt_iff_toNat_lt, byteAt_toNat, byteAt_toNat]
      have e2 : (byteAt m k = byteAt n k) ↔ m / 256 ^ k % 256 = n / 256 ^ k % 256 := by rw [← UInt8.toNat_inj, byteAt_toNat, byteAt_toNat]
      have hp : 0 < 256 ^ k := Nat.pow_pos (by decide)
      have l1 := Nat.mod_lt m hp
      have l2 := Nat.mod_lt n hp
      generalize m / 256 ^ k % 256 = a at e1 e2 ⊢
      generalize n / 256 ^ k % 256 = b at e1 e2 ⊢
      generalize m % 256 ^ k = c at l1 ⊢
      generalize n % 256 ^ k = d at l2 ⊢
      generalize 256 ^ k = P at hp l1 l2 ⊢
      rw [Bool.eq_iff_iff]
      simp only [Bool.or_eq_true, decide_eq_true_eq, Bool.and_eq_true, beq_iff_eq, e1, e2]
      constructor
      · rintro (h | ⟨rfl, h⟩)
        · have := Nat.mul_le_mul_left P (show a + 1 ≤ b by omega)
          rw [Nat.mul_add] at this
          omega
        · omega
      · intro h
        rcases Nat.lt_trichotomy a b with h1 | h1 | h1
        · exact .inl h1
        · subst h1; exact .inr ⟨rfl, by omega⟩
        · have := Nat.mul_le_mul_left P (show b + 1 ≤ a by omega)
          rw [Nat.mul_add] at this
          omega
  exact key k
theorem numB_less (m n : Nat) (hm : m < 18446744073709551616) (hn : n < 18446744073709551616) : Op.bytesLess (numB m) (numB n) = decide (m < n) := by
  unfold numB
  rw [bytesLess_cons]
  have e1 : (UInt8.ofNat (sizeOf8 m) < UInt8.ofNat (sizeOf8 n)) ↔ sizeOf8 m < sizeOf8 n := by rw [UInt8.lt_iff_toNat_lt, numB_head m hm, numB_head n hn]
  have e2 : (UInt8.ofNat (sizeOf8 m) = UInt8.ofNat (sizeOf8 n)) ↔ sizeOf8 m = sizeOf8 n := by rw [← UInt8.toNat_inj, numB_head m hm, numB_head n hn]
  rw [Bool.eq_iff_iff]
  simp only [Bool.or_eq_true, decide_eq_true_eq, Bool.and_eq_true, beq_iff_eq, e1, e2]
  constructor
  · rintro (h | ⟨h, h2⟩)
    · rcases Nat.lt_or_ge m n with h1 | h1
      · exact h1
      · have := sizeOf8_mono n m hm h1; omega
    · rw [h, tell_less m n _ (h ▸ sizeOf8_lt m hm) (sizeOf8_lt n hn), decide_eq_true_eq, Nat.mod_eq_of_lt (h ▸ sizeOf8_lt m hm), Nat.mod_eq_of_lt (sizeOf8_lt n hn)] at h2
      exact h2
  · intro h
    have := sizeOf8_mono m n hn (by omega)
    rcases Nat.lt_or_ge (sizeOf8 m) (sizeOf8 n) with h1 | h1
    · exact .inl h1
    · have e : sizeOf8 m = sizeOf8 n := by omega
      refine .inr ⟨e, ?_⟩
      rw [e, tell_less m n _ (e ▸ sizeOf8_lt m hm) (sizeOf8_lt n hn), decide_eq_true_eq, Nat.mod_eq_of_lt (e ▸ sizeOf8_lt m hm), Nat.mod_eq_of_lt (sizeOf8_lt n hn)]
      exact h
theorem numB_pre (m n : Nat) (l : List UInt8) (hm : m < 18446744073709551616) (hn : n < 18446744073709551616) (h : numB n = numB m ++ l) : m = n := by
  have h1 := readN_numB m l hm
  have h2 := readN_numB n [] hn
  rw [List.append_nil, h, h1] at h2
  simp only [Option.some.injEq, Prod.mk.injEq] at h2
  exact h2.1
theorem numB_inj (m n : Nat) (hm : m < 18446744073709551616) (hn : n < 18446744073709551616) (h : numB m = numB n) : m = n :=
  numB_pre m n [] hm hn (by rw [List.append_nil, h])

/-- a sum, bit by bit, byte by byte -/
def crcBit (s : Nat) : Nat := s / 2 ^^^ (if s % 2 = 1 then 2197175160 else 0)
def crcBits : Nat → Nat → Nat
  | 0, s => s
  | k + 1, s => crcBits k (crcBit s)
def crcByte (s : Nat) (x : UInt8) : Nat := crcBits 8 (s ^^^ x.toNat)
def crcGo (s : Nat) (l : List UInt8) : Nat := l.foldl crcByte s
def crc (l : List UInt8) : Nat := 4294967295 - crcGo 4294967295 l
theorem crcBit_lt (s : Nat) (h : s < 4294967296) : crcBit s < 4294967296 := by
  unfold crcBit
  have h1 : s / 2 < 2 ^ 32 := by omega
  have h2 : (if s % 2 = 1 then 2197175160 else 0) < 2 ^ 32 := by split <;> decide
  exact Nat.xor_lt_two_pow h1 h2
theorem crcBits_lt : ∀ (k s : Nat), s < 4294967296 → crcBits k s < 4294967296
  | 0, _, h => h
  | k + 1, s, h => crcBits_lt k _ (crcBit_lt s h)
theorem xor_lt32 (s : Nat) (x : UInt8) (h : s < 4294967296) : s ^^^ x.toNat < 4294967296 := by
  have hx := x.toNat_lt
  have h1 : s < 2 ^ 32 := by omega
  have h2 : x.toNat < 2 ^ 32 := by omega
  exact Nat.xor_lt_two_pow h1 h2
theorem crcByte_lt (s : Nat) (x : UInt8) (h : s < 4294967296) : crcByte s x < 4294967296 := crcBits_lt 8 _ (xor_lt32 s x h)
theorem crcGo_lt : ∀ (l : List UInt8) (s : Nat), s < 4294967296 → crcGo s l < 4294967296
  | [], _, h => h
  | x :: l, s, h => crcGo_lt l _ (crcByte_lt s x h)
theorem crcBit_top (s : Nat) (h : s < 4294967296) : (crcBit s).testBit 31 = decide (s % 2 = 1) := by
  unfold crcBit
  rw [Nat.testBit_xor]
  have h1 : (s / 2).testBit 31 = false := Nat.testBit_lt_two_pow (by omega)
  rw [h1]
  split
  · rename_i hc; simp [hc]; decide
  · rename_i hc; simp [hc]
theorem xor_cancel_l {a b c : Nat} (h : a ^^^ b = a ^^^ c) : b = c := by
  have e := congrArg (a ^^^ ·) h
  simpa [← Nat.xor_assoc] using e
theorem xor_cancel_r {a b c : Nat} (h : a ^^^ c = b ^^^ c) : a = b := by
  rw [Nat.xor_comm a, Nat.xor_comm b] at h
  exact xor_cancel_l h
theorem crcBit_inj (a b : Nat) (ha : a < 4294967296) (hb : b < 4294967296) (h : crcBit a = crcBit b) : a = b := by
  have h1 : decide (a % 2 = 1) = decide (b % 2 = 1) := by rw [← crcBit_top a ha, ← crcBit_top b hb, h]
  have h2 : a % 2 = b % 2 := by
    have := decide_eq_decide.1 h1
    omega
  have h3 : a / 2 = b / 2 := by
    unfold crcBit at h
    rw [h2] at h
    exact xor_cancel_r h
  omega
theorem crcBits_inj : ∀ (k a b : Nat), a < 4294967296 → b < 4294967296 → crcBits k a = crcBits k b → a = b
  | 0, _, _, _, _, h => h
  | k + 1, a, b, ha, hb, h => crcBit_inj a b ha hb (crcBits_inj k _ _ (crcBit_lt a ha) (crcBit_lt b hb) h)
theorem crcGo_inj : ∀ (l : List UInt8) (a b : Nat), a < 4294967296 → b < 4294967296 → crcGo a l = crcGo b l → a = b
  | [], _, _, _, _, h => h
  | x :: l, a, b, ha, hb, h => by
    have h1 := crcGo_inj l _ _ (crcByte_lt a x ha) (crcByte_lt b x hb) h
    have h2 := crcBits_inj 8 _ _ (xor_lt32 a x ha) (xor_lt32 b x hb) h1
    exact xor_cancel_r h2
/-- lists that differ in one byte have unlike sums -/
theorem crc_set (l : List UInt8) (i : Nat) (h : i < l.length) (y : UInt8) (hy : y ≠ l[i]) : crc l ≠ crc (l.set i y) := by
  intro he
  have e1 : l = l.take i ++ l[i] :: l.drop (i + 1) := by rw [← List.drop_eq_getElem_cons h, List.take_append_drop]
  have e2 : l.set i y = l.take i ++ y :: l.drop (i + 1) := by rw [List.set_eq_take_append_cons_drop, if_pos h]
  have hs : crcGo 4294967295 (l.take i) < 4294967296 := crcGo_lt _ _ (by decide)
  have g1 := crcGo_lt l 4294967295 (by decide)
  have g2 := crcGo_lt (l.set i y) 4294967295 (by decide)
  have he' : crcGo 4294967295 l = crcGo 4294967295 (l.set i y) := by unfold crc at he; omega
  have f1 : crcGo 4294967295 l = crcGo (crcByte (crcGo 4294967295 (l.take i)) l[i]) (l.drop (i + 1)) := by
    conv => lhs; rw [e1]
    unfold crcGo; rw [List.foldl_append]; rfl
  have f2 : crcGo 4294967295 (l.set i y) = crcGo (crcByte (crcGo 4294967295 (l.take i)) y) (l.drop (i + 1)) := by
    conv => lhs; rw [e2]
    unfold crcGo; rw [List.foldl_append]; rfl
  rw [f1, f2] at he'
  have h1 := crcGo_inj _ _ _ (crcByte_lt _ _ hs) (crcByte_lt _ _ hs) he'
  have h2 := crcBits_inj 8 _ _ (xor_lt32 _ _ hs) (xor_lt32 _ _ hs) h1
  exact hy (UInt8.toNat_inj.1 (xor_cancel_l h2)).symm
theorem crcGo_append (l m : List UInt8) (s : Nat) : crcGo s (l ++ m) = crcGo (crcGo s l) m := by
  unfold crcGo; rw [List.foldl_append]
end Go.Proofs.YtbhgcioeibhjeaaGreatDoor
namespace Go.Proofs.YtbhgcioeibhjeaaGreatDoor
open Go.RowKit

theorem infoU8 : (Tryz.prog.info? 5).map (fun i => (i.zero, i.size, i.bytes)) = some (some (.int .u8 0), 1, 1) := by kernel_rfl
def u8s (l : List UInt8) : List Value := l.map fun b => Value.int .u8 b.toNat
theorem u8s_length (l : List UInt8) : (u8s l).length = l.length := by simp [u8s]

theorem ret_i {k : IntKind} {a b : Int} (h : a = b) : Ending.returned (.int k a) = .returned (.int k b) := by rw [h]
set_option maxHeartbeats 400000 in
theorem size_any (n : Nat) (w : World) (hn : n < 18446744073709551616) :
    Calls Tryz.prog 107 #[.int .u64 n] w fun e w' => e = .returned (.int .i64 (sizeOf8 n)) ∧ w = w' := by
  have hb := Lib.bitLen_le n 64 (Nat.le_refl _) hn
  have C := Tryz.bits_Len64 n w (by omega) (by omega)
  rw [Int.toNat_natCast] at C
  unfold sizeOf8
  have HC := Lib.hid C
  clear C hn
  go_enter Tryz.func107, Tryz.ntmps107
  go_wp2_with (first | (go_at_call 110; refine HC.out.mono ?_; rintro e w' ⟨rfl, rfl⟩))
  go_ret
  exact ⟨ret_i (by omega), rfl⟩

/-- cell B holds a slice of room cap that owns the bytes l -/
structure Buf (w : World) (N B g cap : Nat) (l : List UInt8) : Prop where
  box : w.heap[B]? = some (.cells #[.slice (some ⟨g, 0, none⟩) l.length cap] 43 (0, 0))
  ne : B ≠ g
  lo : N ≤ B
  own : w.ownsRow N 5 1 (.slice (some ⟨g, 0, none⟩) l.length cap) l.length (u8s l)
theorem Buf.lg {w : World} {N B g cap : Nat} {l : List UInt8} (h : Buf w N B g cap l) : N ≤ g ∧ g < w.heap.size := h.own.lt g rfl
theorem Buf.lB {w : World} {N B g cap : Nat} {l : List UInt8} (h : Buf w N B g cap l) : B < w.heap.size := (Array.getElem?_eq_some_iff.1 h.box).1

theorem buf_put {w w1 w' : World} {N B g cap : Nat} {l : List UInt8} {c : UInt8} {o : Obj} (h : Buf w N B g cap l) (hN : N ≤ w.heap.size)
    (hown : w1.ownsRow N 5 1 (.slice (some ⟨g, 0, none⟩) (l.length + 1) cap) (l.length + 1) (u8s l ++ [.int .u8 c.toNat])) (hg : (w.alloc o).grownBy w1 (some g))
    (he : w1.setCell ⟨B, 0, none⟩ (.slice (some ⟨g, 0, none⟩) (l.length + 1) cap) = w') : Buf w' N B g cap (l ++ [c]) ∧ Below N w w' := by
  subst he
  have hB := h.lB
  have hlg := h.lg
  have hb1 : w1.heap[B]? = some (.cells #[.slice (some ⟨g, 0, none⟩) l.length cap] 43 (0, 0)) := by
    rw [hg.block B (by simp; omega) (by have := h.ne; simpa using this), heap_alloc_old w o hB]
    exact h.box
  have e1 : (l ++ [c]).length = l.length + 1 := by simp
  have e2 : u8s (l ++ [c]) = u8s l ++ [.int .u8 c.toNat] := by simp [u8s]
  have hbw : Below N w w1 := ((Below.refl _ _).alloc hN o).grown hg (by simp; omega) (fun x hx => by cases hx; exact hlg.1)
  refine ⟨⟨by rw [e1]; exact one_setCell hb1, h.ne, h.lo, ?_⟩, hbw.setCell h.lo _⟩
  rw [e1, e2]
  exact hown.kept (grownBy_setCell' _ _ _) (.inr (by simp only [Value.ownBlock]; intro e; exact h.ne (by cases e; rfl)))
set_option maxHeartbeats 400000 in
theorem put_F (B g cap N : Nat) (l : List UInt8) (c : UInt8) (w : World) (h : Buf w N B g cap l) (hr : l.length < cap) (hN : N ≤ w.heap.size) :
    Calls Tryz.prog 109 #[.int .u8 c.toNat, .pointer (some ⟨B, 0, none⟩)] w fun e w' => e = .returned (.tuple #[]) ∧ Buf w' N B g cap (l ++ [c]) ∧ Below N w w' := by
  obtain ⟨i0, hi0, hz0, hz1, hz2⟩ := info_parts infoU8
  obtain ⟨hg0, hg1⟩ := h.lg
  have hB1 := h.lB
  obtain ⟨hbox, hne, hlo, hown⟩ := h
  have hc : w.cell? ⟨B, 0, none⟩ = some (.slice (some ⟨g, 0, none⟩) l.length cap) := cell_of_one hbox
  have hf : w.frozen? ⟨B, 0, none⟩ = false := free_of_one hbox
  have HB := Lib.hid hbox
  clear hbox
  go_enter Tryz.func109, Tryz.ntmps109
  go_wp2_with (first | (at_builtin; refine wpList_append_own_spare _ rfl _ _ 43 rfl N 5 i0 1 Tryz.underlying43 hi0 hz1 g l.length cap (u8s l) rfl (hown.alloc _) ⟨w.heap.size, 0, none⟩ 1 1 [.int .u8 c.toNat] rfl rfl ?e1 ?e2 ?e3 ?_))
  case e1 =>
    intro j u hj
    match j, hj with
    | 0, hj => simp at hj; subst hj; simp [Addr.add]
  case e2 => intro u hu; simp at hu; subst hu; rfl
  case e3 => omega
  intro w1 hown1 hg1
  have hc1 : w1.cell? ⟨B, 0, none⟩ = some (.slice (some ⟨g, 0, none⟩) l.length cap) := by
    rw [hg1.cell_far _ (by simp; omega) (by simpa using hne), World.cell?_alloc_lt _ _ _ (by simp; omega)]; exact hc
  have hf1 : w1.frozen? ⟨B, 0, none⟩ = false := by
    rw [hg1.frozen_far _ (by simp; omega) (by simpa using hne), World.frozen?_alloc_old _ _ _ (by simp; omega)]; exact hf
  have HP := Lib.hid (buf_put ⟨HB.out, hne, hlo, hown⟩ hN hown1 hg1 rfl)
  clear hown1 hg1 hc hf
  go_wp2
  go_end0
  exact ⟨rfl, HP.out⟩

/-- what a closure that lays a byte does -/
def PutOk (K N B g cap : Nat) : Prop := ∀ (l : List UInt8) (c : UInt8) (W : World), Buf W N B g cap l → l.length < cap → N ≤ W.heap.size →
  Calls Tryz.prog K #[.int .u8 c.toNat, .pointer (some ⟨B, 0, none⟩)] W fun e w' => e = .returned (.tuple #[]) ∧ Buf w' N B g cap (l ++ [c]) ∧ Below N W w'

theorem shr_byte (n j : Nat) : (n : Int) / 2 ^ (8 * (j : Int)).toNat % 256 = ((byteAt n j).toNat : Int) := by
  rw [byteAt_toNat, show (8 * (j : Int)).toNat = 8 * j by omega, pow256]
  rw [Int.natCast_emod, Int.natCast_ediv, Int.natCast_pow]
  rfl
theorem tell_next {n j : Nat} {l' l0 : List UInt8} (h : l' ++ tellL n (j + 1) = l0) : (l' ++ [byteAt n j]) ++ tellL n j = l0 := by
  rw [← h, List.append_assoc]; rfl

set_option maxHeartbeats 400000 in
theorem tellU_F (N B g cap m n : Nat) (l : List UInt8) (w : World) (hp : PutOk 109 N B g cap) (h : Buf w N B g cap l) (hr : l.length + m ≤ cap) (hN : N ≤ w.heap.size) (hm : m ≤ 8) (_hn : n < 18446744073709551616) :
    Calls Tryz.prog 108 #[.int .u64 n, .int .i64 m, .func (.func 109) #[] #[.pointer (some ⟨B, 0, none⟩)]] w fun e w' => e = .returned (.tuple #[]) ∧ Buf w' N B g cap (l ++ tellL n m) ∧ Below N w w' := by
  have HP := Lib.hid hp
  have HB := Lib.hid h
  clear hp h
  go_enter Tryz.func108, Tryz.ntmps108
  go_wp2
  go_loopw [6] (fun i wr => ∃ (k : Nat) (v : Int), Hid (v + 1 = k) ∧ -1 ≤ v ∧ v < m ∧ i = .int .i64 v ∧ (∃ l', Buf wr N B g cap l' ∧ l'.length + k ≤ cap ∧ l' ++ tellL n k = l ++ tellL n m) ∧ Below N w wr) (fun i _ => (intOf i + 1).toNat)
  case atStart => exact ⟨m, m - 1, Lib.hid (by omega), by omega, by omega, rfl, ⟨l, HB.out, hr, rfl⟩, Below.refl _ _⟩
  case round =>
    obtain ⟨k, v, HV, hv0, hv1, rfl, ⟨l', hb, hr', hl⟩, hbw⟩ := hrel
    have HL := Lib.hid hl
    clear hl
    by_cases hv : 0 ≤ v
    · obtain ⟨j, rfl⟩ := Int.eq_ofNat_of_zero_le hv
      obtain rfl : k = j + 1 := by have := HV.out; omega
      have C := HP.out l' (byteAt n j) wr hb (by omega) (by have := hbw.size; omega)
      rw [← shr_byte] at C
      have HC := Lib.hid C
      have HT := Lib.hid (tell_next HL.out)
      clear C hb HV HL
      go_wp2_with (first | (go_at_call 109; refine HC.out.mono ?_; rintro e w1 ⟨rfl, hb1, hbw1⟩))
      go_roundw
      case rel => exact ⟨j, (j : Int) - 1, Lib.hid (by omega), by omega, by omega, rfl, ⟨_, hb1, by simp; omega, HT.out⟩, hbw.trans hbw1⟩
      case measure => simp [intOf]
    · obtain rfl : k = 0 := by have := HV.out; omega
      have hd : (0 ≤ v) = False := by simpa using hv
      go_wp2
      go_end0
      have hl := HL.out
      rw [show tellL n 0 = [] from rfl, List.append_nil] at hl
      exact ⟨rfl, hl ▸ hb, hbw⟩

end Go.Proofs.YtbhgcioeibhjeaaGreatDoor
namespace Go.Proofs.YtbhgcioeibhjeaaGreatDoor
open Go.RowKit

theorem buf_new {w w1 : World} {n : Nat} (hown : w1.ownsRow w.heap.size 5 1 (.slice (some ⟨w.heap.size, 0, none⟩) 0 n) 0 []) (hg : w.grownBy w1 none) :
    Buf (w1.alloc (.cells #[.slice (some ⟨w.heap.size, 0, none⟩) 0 n] 43)) w.heap.size w1.heap.size w.heap.size n [] ∧ Below w.heap.size w (w1.alloc (.cells #[.slice (some ⟨w.heap.size, 0, none⟩) 0 n] 43)) := by
  have hlt := (hown.lt w.heap.size rfl).2
  exact ⟨⟨heap_alloc_new w1 _, by omega, by omega, hown.alloc _⟩, ((Below.refl _ _).grown hg (Nat.le_refl _) (fun _ h => by cases h)).alloc hg.size _⟩

theorem buf_cell {w : World} {N B g cap n : Nat} {l : List UInt8} (h : Buf w N B g cap l) (hn : l.length = n) : w.cell? ⟨B, 0, none⟩ = some (.slice (some ⟨g, 0, none⟩) n cap) := by
  rw [cell_of_one h.box, hn]
/-- bytes in new memory -/
def NewBytes (w w' : World) (l : List UInt8) (v : Value) : Prop :=
  ∃ g room, w.heap.size ≤ g ∧ v = .slice (some ⟨g, 0, none⟩) l.length room ∧ w'.ownsRow w.heap.size 5 1 (.slice (some ⟨g, 0, none⟩) l.length room) l.length (u8s l) ∧ Below w.heap.size w w'

theorem tell_one (k : Nat) : tellL k 1 = [UInt8.ofNat k] := by simp [tellL, byteAt]
/-- a text's bytes -/
def txtL (l : List UInt8) : List UInt8 := numB l.length ++ l
theorem u8s_str (s : ByteArray) : Lib.strCells s = u8s s.data.toList := rfl
end Go.Proofs.YtbhgcioeibhjeaaGreatDoor
namespace Go.Proofs.YtbhgcioeibhjeaaGreatDoor
open Go.RowKit

/-- a slice of bytes -/
def BytesAt (w : World) (v : Value) (l : List UInt8) : Prop := ∃ oa cap, v = .slice oa l.length cap ∧ l.length ≤ cap ∧ ∀ (j : Nat) (h : j < l.length), ∃ a, oa = some a ∧ w.cell? (a.add j) = some (.int .u8 (l[j].toNat : Int))
end Go.Proofs.YtbhgcioeibhjeaaGreatDoor
namespace Go.Proofs.YtbhgcioeibhjeaaGreatDoor
open Go.RowKit

theorem or_add (a b : Nat) (ha : a * 256 < 18446744073709551616) (hb : b < 256) : bits BinOp.or IntKind.u64 ((a : Int) * 256) (b : Int) = ((a * 256 + b : Nat) : Int) := by
  rw [bits_join .u64 64 (by decide) (fun n h0 h1 => by rw [IntKind.wrap_u64]; omega) 8 ((a : Int) * 256) b (by omega) (by omega) (by omega) (by omega) (by omega) (by omega)]
  omega
theorem valOf_next {l : List UInt8} {k : Nat} (h : k < l.length) (s : Nat) : valOf (l.drop k) s = valOf (l.drop (k + 1)) (s * 256 + l[k].toNat) := by
  rw [List.drop_eq_getElem_cons h]
  rfl

theorem pow_next {c k : Nat} (h : c < 256 ^ k) (x : UInt8) : c * 256 + x.toNat < 256 ^ (k + 1) := by
  have hx := x.toNat_lt
  rw [Nat.pow_succ]
  omega
set_option maxHeartbeats 1000000 in
theorem join_any (v : Value) (l : List UInt8) (w : World) (hv : BytesAt w v l) (hl : l.length ≤ 8) :
    Calls Tryz.prog 105 #[v] w fun e w' => e = .returned (.int .u64 (valOf l 0 : Nat)) ∧ w = w' := by
  obtain ⟨oa, cap, rfl, _, hv⟩ := hv
  have HV := Lib.hid hv
  clear hv
  go_enter Tryz.func105, Tryz.ntmps105
  go_wp2
  go_loop [3, 8] (fun s i => ∃ (k c : Nat), k ≤ l.length ∧ Hid (c < 256 ^ k) ∧ i = .int .i64 k ∧ s = .int .u64 c ∧ Hid (valOf l 0 = valOf (l.drop k) c)) (fun _ i => l.length - (intOf i).toNat)
  case atStart => exact ⟨0, 0, by omega, Lib.hid (by decide), rfl, rfl, Lib.hid rfl⟩
  case round =>
    obtain ⟨k, c, hk, HP, rfl, rfl, HC⟩ := hrel
    by_cases hlt : k < l.length
    · obtain ⟨a, rfl, hcell⟩ := HV.out k hlt
      have HN := Lib.hid (HC.out.trans (valOf_next hlt c))
      obtain ⟨x, hx⟩ : ∃ x, l[k] = x := ⟨_, rfl⟩
      rw [hx] at hcell HN
      have hx256 := x.toNat_lt
      have hc7 : c < 72057594037927936 := by
        have h1 := HP.out
        have h2 := Nat.pow_le_pow_right (n := 256) (by decide) (show k ≤ 7 by omega)
        have h3 : (256 : Nat) ^ 7 = 72057594037927936 := by decide
        omega
      have hor := or_add c x.toNat (by omega) hx256
      have HX := Lib.hid (pow_next HP.out x)
      clear hx HC HP hor
      have hor := or_add c x.toNat (by omega) hx256
      go_wp2
      go_round
      case rel => exact ⟨k + 1, c * 256 + x.toNat, by omega, HX, by go_num, by go_num, HN⟩
      case measure => simp [intOf]; omega
    · obtain rfl : k = l.length := by omega
      have h := HC.out
      rw [List.drop_length] at h
      have H := Lib.hid h
      clear h
      go_wp2
      go_ret
      exact ⟨by rw [H.out]; rfl, rfl⟩

/-- what a piece of a slice is -/
def pieceV (oa : Option Addr) (i many : Nat) : Value := .slice (if many = 0 then oa else oa.map (·.add i)) many many
theorem BytesAt.piece {w : World} {oa : Option Addr} {cap i many : Nat} {l : List UInt8} (h : BytesAt w (.slice oa l.length cap) l) (hi : i + many ≤ l.length) : BytesAt w (pieceV oa i many) ((l.drop i).take many) := by
  obtain ⟨ob, cap', he, _, hc⟩ := h
  cases he
  have hl : ((l.drop i).take many).length = many := by rw [List.length_take, List.length_drop]; omega
  refine ⟨_, many, by rw [hl]; rfl, by omega, fun j hj => ?_⟩
  rw [hl] at hj
  obtain ⟨a, rfl, ha⟩ := hc (i + j) (by omega)
  rw [if_neg (by omega)]
  refine ⟨_, rfl, ?_⟩
  rw [Addr.add_add, ha]
  simp

theorem quiet_sym {P : Program} {f : FuncId} {args : Array Value} {w : World} {n : Nat} {v : Value}
    (h : Calls P f args (w.drewN n) fun e w' => e = .returned v ∧ w.drewN n = w') : Calls P f args (w.drewN n) fun e w'' => e = .returned v ∧ ∃ m, w'' = w.drewN m :=
  h.mono fun _ _ ⟨he, hm⟩ => ⟨he, n, hm.symm⟩
/-- a reader in block R: its bytes, how many are taken -/
structure Rd (w : World) (R : Nat) (v : Value) (i : Nat) : Prop where
  bytes : w.cell? ⟨R, 0, none⟩ = some v
  pos : w.cell? ⟨R, 1, none⟩ = some (.int .i64 i)
  free : w.frozen? ⟨R, 1, none⟩ = false
/-- a reader that has taken up to k; all below it is as it was -/
def RdTo (w : World) (R : Nat) (v : Value) (k : Nat) (w' : World) : Prop := Rd w' R v k ∧ Below R w w'
theorem rd_to {w w' : World} {R i k q : Nat} {v : Value} (h : Rd w R v i) (e : (w.drewN q).setCell ⟨R, 1, none⟩ (.int .i64 k) = w') : RdTo w R v k w' := by
  subst e
  obtain ⟨h0, h1, h2⟩ := h
  exact ⟨⟨by simp [go_sem, h0], by simp [go_sem, h1], by simp [go_sem, h2]⟩, Below.setCell (p := (⟨R, 1, none⟩ : Addr)) (below_drewN (Below.refl R w) q) (Nat.le_refl R) _⟩
end Go.Proofs.YtbhgcioeibhjeaaGreatDoor
namespace Go.Proofs.YtbhgcioeibhjeaaGreatDoor
open Go.RowKit

/-- a scope out of which one way jumps ahead, to a label at its end -/
theorem wp_scope_ahead {P : Program} {a : Act} {w : World} {Q : Exit → Act → World → Prop} {c rest : Code} (l : Nat) (hf : findLabel c l = some rest)
    (h : c.wp P (Exit.jump l (fun a' w' => rest.wp P (Exit.jump l (fun _ _ => False) Q) a' w') Q) a w) : (Code.scope c).wp P Q a w := by
  refine wp_scope_jumps l (fun a' w' => rest.wp P (Exit.jump l (fun _ _ => False) Q) a' w') (fun _ _ => 0) hf h (fun a w hJ => ?_)
  refine wp_mono hJ (fun e a w he => ?_)
  cases e with
  | goto l' => exact he.2.elim
  | normal => exact he
  | exit => exact he
  | ret => exact he
  | panic => exact he
  | outgrown => exact he

/-- the bytes of a slice, all of them below block R -/
def BelowAt (w : World) (R : Nat) (oa : Option Addr) (l : List UInt8) : Prop := ∀ (j : Nat) (h : j < l.length), ∃ a, oa = some a ∧ a.block < R ∧ w.cell? (a.add j) = some (.int .u8 (l[j].toNat : Int))
theorem Addr.add_block (a : Addr) (j : Nat) : (a.add j).block = a.block := by
  unfold Addr.add
  split <;> rfl
theorem BelowAt.of {w w' : World} {R : Nat} {oa : Option Addr} {cap : Nat} {l : List UInt8} (h : BytesAt w (.slice oa l.length cap) l) (hR : R = w.heap.size) (hb : Below R w w') : BelowAt w' R oa l := by
  obtain ⟨ob, cap', he, _, hc⟩ := h
  cases he
  intro j hj
  obtain ⟨a, ha, hcell⟩ := hc j hj
  have hlt := World.block_lt_of_cell? w _ hcell
  rw [Addr.add_block] at hlt
  refine ⟨a, ha, by omega, ?_⟩
  rw [hb.cell (by rw [Addr.add_block]; omega)]
  exact hcell
theorem BelowAt.keep {w w' : World} {R : Nat} {oa : Option Addr} {l : List UInt8} (h : BelowAt w R oa l) (hb : Below R w w') : BelowAt w' R oa l := by
  intro j hj
  obtain ⟨a, ha, hR, hcell⟩ := h j hj
  exact ⟨a, ha, hR, by rw [hb.cell (by rw [Addr.add_block]; omega)]; exact hcell⟩
theorem BelowAt.bytes {w : World} {R : Nat} {oa : Option Addr} {l : List UInt8} (h : BelowAt w R oa l) {cap : Nat} (hc : l.length ≤ cap) : BytesAt w (.slice oa l.length cap) l :=
  ⟨oa, cap, rfl, hc, fun j hj => by obtain ⟨a, ha, _, hc⟩ := h j hj; exact ⟨a, ha, hc⟩⟩
theorem RdTo.trans {w w1 w2 : World} {R i j : Nat} {v : Value} (h : RdTo w R v i w1) (k : RdTo w1 R v j w2) : RdTo w R v j w2 := ⟨k.1, h.2.trans k.2⟩

end Go.Proofs.YtbhgcioeibhjeaaGreatDoor
namespace Go.Proofs.YtbhgcioeibhjeaaGreatDoor
open Go.RowKit

theorem readN_drop {l : List UInt8} {i : Nat} (h : i < l.length) : readN (l.drop i) = if l[i].toNat ≤ 8 ∧ i + 1 + l[i].toNat ≤ l.length ∧ ¬ (0 < l[i].toNat ∧ l[i + 1]? = some 0) then some (valOf ((l.drop (i + 1)).take l[i].toNat) 0, 1 + l[i].toNat) else none := by
  rw [List.drop_eq_getElem_cons h, readN_cons]
  have e : (l[i].toNat ≤ 8 ∧ l[i].toNat ≤ (l.drop (i + 1)).length ∧ ¬ (0 < l[i].toNat ∧ (l.drop (i + 1)).head? = some 0)) ↔ (l[i].toNat ≤ 8 ∧ i + 1 + l[i].toNat ≤ l.length ∧ ¬ (0 < l[i].toNat ∧ l[i + 1]? = some 0)) := by
    rw [List.length_drop, List.head?_drop]
    constructor
    · rintro ⟨a, b, c⟩; exact ⟨a, by omega, c⟩
    · rintro ⟨a, b, c⟩; exact ⟨a, by omega, c⟩
  by_cases c : l[i].toNat ≤ 8 ∧ i + 1 + l[i].toNat ≤ l.length ∧ ¬ (0 < l[i].toNat ∧ l[i + 1]? = some 0)
  · rw [if_pos c, if_pos (e.2 c)]
  · rw [if_neg c, if_neg (fun h => c (e.1 h))]
/-- a result of ReadNumber -/
def rdRes : Option (Nat × Nat) → Value
  | some (n, k) => .tuple #[.int .u64 n, .int .i64 k, .int .i64 0]
  | none => .tuple #[.int .u64 0, .int .i64 0, .int .i64 120]
end Go.Proofs.YtbhgcioeibhjeaaGreatDoor
namespace Go.Proofs.YtbhgcioeibhjeaaGreatDoor
open Go.RowKit

/-- string(b) -/
theorem bytes_string {w : World} {v : Value} {l : List UInt8} (h : BytesAt w v l) : (convert 43 9 v).run Tryz.prog w = .ok (.string ⟨l.toArray⟩) w := by
  obtain ⟨oa, cap, rfl, _, hc⟩ := h
  cases oa with
  | none =>
    obtain rfl : l = [] := by
      cases l with
      | nil => rfl
      | cons x l => obtain ⟨a, ha, _⟩ := hc 0 (by simp); cases ha
    rw [run_convert_bytes_string w 43 9 5 none _ cap Tryz.underlying43 Tryz.underlying5 Tryz.underlying9]
    rfl
  | some a =>
    refine run_convert_bytes_back w 43 9 5 a cap l Tryz.underlying43 Tryz.underlying5 Tryz.underlying9 (fun j hj => ?_)
    obtain ⟨a', ha, hcell⟩ := hc j hj
    cases ha
    exact hcell
theorem NewBytes.at {w w' : World} {l : List UInt8} {v : Value} (h : NewBytes w w' l v) : BytesAt w' v l ∧ Below w.heap.size w w' := by
  obtain ⟨g, room, hg, rfl, hown, hb⟩ := h
  have hcap : l.length ≤ room := by
    rcases hown.2 with ⟨h, _⟩ | ⟨g', cap, cur, he, _, _, hn, _⟩
    · cases h
    · cases he; exact hn
  refine ⟨⟨_, room, rfl, hcap, fun j hj => ⟨_, rfl, ?_⟩⟩, hb⟩
  rw [hown.cells rfl j _ (by unfold u8s; rw [List.getElem?_map, List.getElem?_eq_getElem hj]; rfl)]
theorem bytes_nil (w : World) : BytesAt w (.slice none 0 0) [] := ⟨none, 0, rfl, by simp, fun j h => by simp at h⟩

/-- Fixed's error -/
def fixNo (n : Nat) (many : Int) : Int := if many < 1 ∨ 8 < many then 2 else if many < sizeOf8 n then 4 else 0
def fixL (n : Nat) (many : Int) : List UInt8 := if fixNo n many = 0 then tellL n many.toNat else []
set_option maxRecDepth 100000 in
set_option maxHeartbeats 1000000 in
theorem Fixed_any (n : Nat) (many : Int) (w : World) (hn : n < 18446744073709551616) :
    Calls Tryz.prog 99 #[.int .u64 n, .int .i64 many] w fun e w' => ∃ v, e = .returned (.tuple #[v, .int .i64 (fixNo n many)]) ∧ BytesAt w' v (fixL n many) ∧ Below w.heap.size w w' := by
  by_cases h1 : many < 1
  · have hno : fixNo n many = 2 := by unfold fixNo; rw [if_pos (.inl h1)]
    have hl : fixL n many = [] := by unfold fixL; rw [hno]; rfl
    rw [hno, hl]
    clear hno hl
    go_enter Tryz.func99, Tryz.ntmps99
    go_wp2
    go_ret2
    exact ⟨_, rfl, bytes_nil _, Below.refl _ _⟩
  · by_cases h8 : 8 < many
    · have hno : fixNo n many = 2 := by unfold fixNo; rw [if_pos (.inr h8)]
      have hl : fixL n many = [] := by unfold fixL; rw [hno]; rfl
      rw [hno, hl]
      clear hno hl
      go_enter Tryz.func99, Tryz.ntmps99
      go_wp2
      go_ret2
      exact ⟨_, rfl, bytes_nil _, Below.refl _ _⟩
    · obtain ⟨m, rfl⟩ := Int.eq_ofNat_of_zero_le (show 0 ≤ many by omega)
      obtain ⟨k, hk⟩ : ∃ k, sizeOf8 n = k := ⟨_, rfl⟩
      have Z := fun w => size_any n w hn
      rw [hk] at Z
      have HZ := Lib.hid Z
      clear Z
      by_cases h4 : (m : Int) < k
      · have hno : fixNo n m = 4 := by unfold fixNo; rw [if_neg (by omega), hk, if_pos h4]
        have hl : fixL n m = [] := by unfold fixL; rw [hno]; rfl
        rw [hno, hl]
        clear hno hl hk
        go_enter Tryz.func99, Tryz.ntmps99
        go_wp2_with (first | (go_at_call 107; refine (HZ.out _).mono ?_; rintro e w' ⟨rfl, rfl⟩))
        go_ret2
        exact ⟨_, rfl, bytes_nil _, Below.refl _ _⟩
      · have hno : fixNo n m = 0 := by unfold fixNo; rw [if_neg (by omega), hk, if_neg h4]
        have hl : fixL n m = tellL n m := by unfold fixL; rw [hno]; rfl
        rw [hno, hl]
        clear hno hl hk
        obtain ⟨i0, hi0, hz0, hz1, hz2⟩ := info_parts infoU8
        have HN := Lib.hid hn
        clear hn
        go_enter Tryz.func99, Tryz.ntmps99
        go_wp2_with (first | (go_at_call 107; refine (HZ.out _).mono ?_; rintro e w' ⟨rfl, rfl⟩) | (at_make; refine wpList_make_own _ rfl _ _ 43 rfl w.heap.size 5 i0 (.int .u8 0) 1 Tryz.underlying43 hi0 hz0 hz1 _ _ _ m rfl rfl ?c1 ?c2 ?c3 ?c4 ?_))
        case c1 => omega
        case c2 => rw [hz2]; omega
        case c3 => unfold maxLen; omega
        case c4 => simp
        intro w1 hown1 hg1
        have HB := Lib.hid (buf_new hown1 hg1)
        have h1 := hg1.size
        clear hown1 hg1
        have HC := Lib.hid (tellU_F w.heap.size w1.heap.size w.heap.size m m n [] _ (fun l c W h hr hN => put_F w1.heap.size w.heap.size m w.heap.size l c W h hr hN) HB.out.1 (by simp) (by simp; omega) (by omega) HN.out)
        go_wp2_with (first | (go_at_call 108; refine HC.out.mono ?_; rintro e w2 ⟨rfl, hb2, hbw2⟩; have hc := buf_cell hb2 (show ([] ++ tellL n m).length = m by simp [tellL_length])))
        go_ret2
        have hl := tellL_length n m
        have hN : NewBytes w w2 (tellL n m) (.slice (some ⟨w.heap.size, 0, none⟩) m m) := by
          have := hb2.own
          rw [List.nil_append, hl] at this
          exact ⟨w.heap.size, m, Nat.le_refl _, by rw [hl], by rw [hl]; exact this, HB.out.2.trans hbw2⟩
        exact ⟨_, rfl, hN.at.1, hN.at.2⟩

/-- a list of bytes written out -/
theorem bytes_lit (W : World) (l : List UInt8) (cs : Array Value) (n : Nat) (hc : cs = (u8s l).toArray) (hn : l.length = n) : BytesAt (W.alloc (.cells cs 5)) (.slice (some ⟨W.heap.size, 0, none⟩) n n) l := by
  subst hn hc
  refine ⟨_, _, rfl, Nat.le_refl _, fun j hj => ⟨_, rfl, ?_⟩⟩
  rw [Addr.add_lit, Nat.zero_add, World.cell?_alloc_new]
  simp [u8s, hj]
theorem bytes_litc (W : World) (l : List UInt8) (cs : Array Value) (n : Nat) (hc : cs = (u8s l).toArray) (hn : l.length = n) : BytesAt (W.alloc (.cells cs 5 (n, n + 1))) (.slice (some ⟨W.heap.size, 0, none⟩) n n) l := by
  subst hn hc
  refine ⟨_, _, rfl, Nat.le_refl _, fun j hj => ⟨_, rfl, ?_⟩⟩
  rw [Addr.add_lit, Nat.zero_add, cell_of_row _ _ j _ _ _ (heap_alloc_new W _)]
  simp [u8s, hj]
theorem BytesAt.keep {w w' : World} {v : Value} {l : List UInt8} {B : Nat} (h : BytesAt w v l) (hb : Below B w w') (hB : w.heap.size ≤ B) : BytesAt w' v l := by
  obtain ⟨oa, cap, rfl, hl, hc⟩ := h
  refine ⟨oa, cap, rfl, hl, fun j hj => ?_⟩
  obtain ⟨a, ha, hcell⟩ := hc j hj
  exact ⟨a, ha, by rw [hb.cell (by have := World.block_lt_of_cell? w _ hcell; omega)]; exact hcell⟩
theorem below_alloc {W w' : World} {o : Obj} (h : Below (W.alloc o).heap.size (W.alloc o) w') : Below W.heap.size W w' := ((Below.refl _ _).alloc (Nat.le_refl _) _).trans (h.mono (by simp))
end Go.Proofs.YtbhgcioeibhjeaaGreatDoor
namespace Go.Proofs.YtbhgcioeibhjeaaGreatDoor
open Go.RowKit

/-- a slice of slices of bytes -/
def RowsAt (w : World) (v : Value) (ls : List (Value × List UInt8)) : Prop := ∃ oa cap, v = .slice oa ls.length cap ∧ ∀ (j : Nat) (h : j < ls.length), ∃ a, oa = some a ∧ w.cell? (a.add j) = some ls[j].1 ∧ BytesAt w ls[j].1 ls[j].2

def catL (ls : List (Value × List UInt8)) : List UInt8 := ls.flatMap (·.2)
theorem cat_next {ls : List (Value × List UInt8)} {k : Nat} (h : k < ls.length) (s : Nat) : crcGo s (catL (ls.drop k)) = crcGo (crcGo s ls[k].2) (catL (ls.drop (k + 1))) := by
  rw [List.drop_eq_getElem_cons h]
  unfold catL
  rw [List.flatMap_cons, crcGo_append]
theorem row_next {l : List UInt8} {k : Nat} (h : k < l.length) (s : Nat) : crcGo s (l.drop k) = crcGo (crcByte s l[k]) (l.drop (k + 1)) := by
  rw [List.drop_eq_getElem_cons h]
  rfl

theorem not_u32 (c : Nat) (hc : c < 4294967296) : bits BinOp.xor IntKind.u32 4294967295 (c : Int) = ((4294967295 - c : Nat) : Int) := by
  have h := u32_xor_nat 4294967295 c (by omega) hc
  have h1 : (BitVec.allOnes 32 ^^^ BitVec.ofNat 32 c).toNat = (~~~ (BitVec.ofNat 32 c)).toNat := by rw [BitVec.not_def]
  rw [BitVec.toNat_xor, BitVec.toNat_not, BitVec.toNat_allOnes, BitVec.toNat_ofNat, Nat.mod_eq_of_lt (by omega)] at h1
  have h2 : 4294967295 ^^^ c = 4294967295 - c := h1
  rw [h2] at h
  exact h
theorem crcBit_walk (e : Nat) (he : e < 4294967296) : bits BinOp.xor IntKind.u32 ((e : Int) / 2) (bits BinOp.and IntKind.u32 2197175160 (-bits BinOp.and IntKind.u32 (e : Int) 1 % 4294967296)) = ((crcBit e : Nat) : Int) := by
  have h1 : bits BinOp.and IntKind.u32 (e : Int) 1 = ((e % 2 : Nat) : Int) := by
    have := u32_and_nat e 1 he (by omega)
    rw [Nat.and_one_is_mod] at this
    exact this
  rw [h1]
  unfold crcBit
  have h2 : (e : Int) / 2 = ((e / 2 : Nat) : Int) := by omega
  rw [h2]
  rcases Nat.mod_two_eq_zero_or_one e with h | h
  · rw [h, if_neg (by decide)]
    have h3 : bits BinOp.and IntKind.u32 2197175160 (-((0 : Nat) : Int) % 4294967296) = ((0 : Nat) : Int) := by decide +kernel
    rw [h3]
    exact u32_xor_nat (e / 2) 0 (by omega) (by omega)
  · rw [h, if_pos rfl]
    have h3 : bits BinOp.and IntKind.u32 2197175160 (-((1 : Nat) : Int) % 4294967296) = ((2197175160 : Nat) : Int) := by decide +kernel
    rw [h3]
    exact u32_xor_nat (e / 2) 2197175160 (by omega) (by omega)
set_option maxHeartbeats 1000000 in
theorem Sum_any (v : Value) (ls : List (Value × List UInt8)) (w : World) (hv : RowsAt w v ls) (hl : ls.length ≤ 1000000) (hr : ∀ x ∈ ls, x.2.length ≤ 1000000) :
    Calls Tryz.prog 74 #[v] w fun e w' => e = .returned (.int .u32 (crc (catL ls))) ∧ w = w' := by
  obtain ⟨oa, cap, rfl, hv⟩ := hv
  have HV := Lib.hid hv
  have HR := Lib.hid hr
  clear hv hr
  go_enter Tryz.func74, Tryz.ntmps74
  go_wp2
  go_loop [3, 10] (fun s i => ∃ (k c : Nat), k ≤ ls.length ∧ c < 4294967296 ∧ i = .int .i64 k ∧ s = .int .u32 c ∧ Hid (crcGo 4294967295 (catL ls) = crcGo c (catL (ls.drop k)))) (fun _ i => ls.length - (intOf i).toNat)
  case atStart => exact ⟨0, 4294967295, by omega, by omega, rfl, rfl, Lib.hid rfl⟩
  case round =>
    obtain ⟨k, c, hk, hc, rfl, rfl, HC⟩ := hrel
    by_cases hlt : k < ls.length
    · obtain ⟨a, rfl, hcell, ob, cap', hrow, _, hb⟩ := HV.out k hlt
      have hrl := HR.out _ (List.getElem_mem hlt)
      have HN : Hid _ := Lib.hid (HC.out.trans (cat_next hlt c))
      obtain ⟨x, hx⟩ : ∃ x, ls[k] = x := ⟨_, rfl⟩
      rw [hrow] at hcell
      rw [hx] at hcell hb hrl HN
      obtain ⟨X, l⟩ := x
      simp only at hcell hb hrl HN
      have HB := Lib.hid hb
      clear hb hx hrow HC
      go_wp2
      go_loop [3, 16] (fun s i => ∃ (j d : Nat), j ≤ l.length ∧ d < 4294967296 ∧ i = .int .i64 j ∧ s = .int .u32 d ∧ Hid (crcGo 4294967295 (catL ls) = crcGo (crcGo d (l.drop j)) (catL (ls.drop (k + 1))))) (fun _ i => l.length - (intOf i).toNat)
      case atStart => exact ⟨0, c, by omega, hc, rfl, rfl, HN⟩
      case round =>
        obtain ⟨j, d, hj, hd, rfl, rfl, HD⟩ := hrel
        by_cases hlj : j < l.length
        · obtain ⟨ab, rfl, hbyte⟩ := HB.out j hlj
          have hm := HD.out.trans (congrArg (crcGo · _) (row_next hlj d))
          obtain ⟨x, hx⟩ : ∃ x, l[j] = x := ⟨_, rfl⟩
          rw [hx] at hbyte hm
          unfold crcByte at hm
          have hx256 := x.toNat_lt
          have hxor : bits BinOp.xor IntKind.u32 (d : Int) (x.toNat : Int) = ((d ^^^ x.toNat : Nat) : Int) := u32_xor_nat d x.toNat hd (by omega)
          have hlt32 := xor_lt32 d x hd
          have HM := Lib.hid hm
          clear hx HD hm
          generalize d ^^^ x.toNat = t at *
          go_wp2
          go_loop [3, 24] (fun s i => ∃ (q d : Nat), q ≤ 8 ∧ d < 4294967296 ∧ i = .int .i64 q ∧ s = .int .u32 d ∧ Hid (crcGo 4294967295 (catL ls) = crcGo (crcGo (crcBits (8 - q) d) (l.drop (j + 1))) (catL (ls.drop (k + 1))))) (fun _ i => 8 - (intOf i).toNat)
          case atStart => exact ⟨0, t, by omega, hlt32, rfl, rfl, HM⟩
          case round =>
            clear HM hxor hlt32
            obtain ⟨q, e, hq, he, rfl, rfl, HE⟩ := hrel
            by_cases hq8 : q < 8
            · go_wp2
              go_round
              case rel => exact ⟨q + 1, crcBit e, by omega, crcBit_lt e he, by go_num, by rw [crcBit_walk e he], Lib.hid (by rw [HE.out, show 8 - q = (8 - (q + 1)) + 1 by omega]; rfl)⟩
              case measure => simp [intOf]; omega
            · obtain rfl : q = 8 := by omega
              go_wp2
              go_round
              case rel => exact ⟨j + 1, e, by omega, he, by go_num, rfl, Lib.hid HE.out⟩
              case measure => simp [intOf]; omega
        · obtain rfl : j = l.length := by omega
          go_wp2
          go_round
          case rel => exact ⟨k + 1, d, by omega, hd, by go_num, rfl, Lib.hid (by have := HD.out; rwa [List.drop_length] at this)⟩
          case measure => simp [intOf]; omega
    · obtain rfl : k = ls.length := by omega
      go_wp2
      go_ret
      refine ⟨?_, rfl⟩
      have h := HC.out
      rw [List.drop_length] at h
      unfold crc
      rw [h]
      exact ret_i (not_u32 c hc)
end Go.Proofs.YtbhgcioeibhjeaaGreatDoor
namespace Go.Proofs.YtbhgcioeibhjeaaGreatDoor
open Go.RowKit

/-- a slice of bytes, nil or not -/
def BytesOf (w : World) (v : Value) (l : List UInt8) : Prop := (v = .slice none 0 0 ∧ l = []) ∨ ∃ a cap, v = .slice (some a) l.length cap ∧ l.length ≤ cap ∧ ∀ (j : Nat) (h : j < l.length), w.cell? (a.add j) = some (.int .u8 (l[j].toNat : Int))
theorem BytesOf.at {w : World} {v : Value} {l : List UInt8} (h : BytesOf w v l) : BytesAt w v l := by
  rcases h with ⟨rfl, rfl⟩ | ⟨a, cap, rfl, hl, hc⟩
  · exact bytes_nil w
  · exact ⟨some a, cap, rfl, hl, fun j hj => ⟨a, rfl, hc j hj⟩⟩
theorem BytesOf.keep {w w' : World} {v : Value} {l : List UInt8} {B : Nat} (h : BytesOf w v l) (hb : Below B w w') (hB : w.heap.size ≤ B) : BytesOf w' v l := by
  rcases h with ⟨rfl, rfl⟩ | ⟨a, cap, rfl, hl, hc⟩
  · exact .inl ⟨rfl, rfl⟩
  · exact .inr ⟨a, cap, rfl, hl, fun j hj => by rw [hb.cell (by have := World.block_lt_of_cell? w _ (hc j hj); omega)]; exact hc j hj⟩
end Go.Proofs.YtbhgcioeibhjeaaGreatDoor
namespace Go.Proofs.YtbhgcioeibhjeaaGreatDoor
open Go.RowKit

theorem BytesOf.own {w : World} {v : Value} {l : List UInt8} {B : Nat} (h : w.ownsRow B 5 1 v l.length (u8s l)) : BytesOf w v l := by
  rcases h.2 with ⟨rfl, h0⟩ | ⟨g, cap, cur, rfl, _, _, hn, _⟩
  · exact .inl ⟨rfl, List.eq_nil_of_length_eq_zero h0⟩
  · exact .inr ⟨_, cap, rfl, hn, fun j hj => h.cells rfl j _ (by simp [u8s, hj])⟩
/-- append(own, src...) -/
theorem wpList_append_bytes {w : World} {ops : Array Oper} {rest : List Oper} {o : Oper} {a : Act} {Q : Exit → Act → World → Prop} (hgd : o.guard = none) (s x : Operand)
    (ho : o.op = .call { callee := .builtin .append, args := #[s, x], argTypes := #[43, 43] })
    (base : Nat) (v vb : Value) (n : Nat) (l m : List UInt8) (hs : a.eval s = v) (hx : a.eval x = vb) (hown : w.ownsRow base 5 1 v n (u8s l)) (hn : n = l.length) (hsrc : BytesOf w vb m)
    (hlen : n + m.length ≤ 1000000) (hbase : base ≤ w.heap.size)
    (h : ∀ v' w', w'.ownsRow base 5 1 v' (l ++ m).length (u8s (l ++ m)) → w.grownBy w' v.ownBlock → wpList Tryz.prog ops Q rest (a.put o.dst v') w') : wpList Tryz.prog ops Q (o :: rest) a w := by
  subst hn
  obtain ⟨i0, hi0, hz0, hz1, hz2⟩ := info_parts infoU8
  rcases hsrc with ⟨rfl, rfl⟩ | ⟨ad, cap, rfl, hl, hc⟩
  · refine wpList_append_own_none hgd s x 43 ho base 5 i0 1 Tryz.underlying43 hi0 v l.length (u8s l) hs hown hx (h v w ?_ (World.grownBy.refl w _))
    rw [List.append_nil]
    exact hown
  · refine wpList_append_own w hgd s x 43 ho base 5 i0 (.int .u8 0) 1 1 Tryz.underlying43 hi0 hz0 hz1 hz2 rfl (by decide) v l.length (u8s l) hs hown ad m.length cap (u8s m) hx (by simp [u8s]) ?_ ?_ (by unfold maxLen; omega) (by omega) hbase ?_
    · intro j u hj
      have hj' : j < m.length := by have := (List.getElem?_eq_some_iff.1 hj).1; simpa [u8s] using this
      rw [hc j hj', ← hj]
      simp [u8s, hj']
    · intro u hu
      simp only [u8s, List.mem_map] at hu
      obtain ⟨c, _, rfl⟩ := hu
      rfl
    · intro v' w' hown' hg _
      refine h v' w' ?_ hg
      rw [List.length_append]
      unfold u8s at hown' ⊢
      rw [List.map_append]
      exact hown'

theorem sizeOf8_next (n : Nat) (h : n < 18446744073709551616) (h0 : n ≠ 0) : sizeOf8 n = sizeOf8 (n / 256) + 1 := by
  have hd : n / 256 < 18446744073709551616 := by omega
  have h1 := (sizeOf8_bd n h h0).1
  have key : ∀ k, sizeOf8 n ≤ k + 1 ↔ sizeOf8 (n / 256) ≤ k := by
    intro k
    rw [sizeOf8_le_iff n _ h, sizeOf8_le_iff _ _ hd, Nat.div_lt_iff_lt_mul (by decide), Nat.pow_succ]
  have a := (key (sizeOf8 (n / 256))).2 (Nat.le_refl _)
  have b := (key (sizeOf8 n - 1)).1 (by omega)
  omega
theorem tell_snoc (n : Nat) : ∀ k, tellL n (k + 1) = tellL (n / 256) k ++ [byteAt n 0]
  | 0 => rfl
  | k + 1 => by
    have h := tell_snoc n k
    show byteAt n (k + 1) :: tellL n (k + 1) = (byteAt (n / 256) k :: tellL (n / 256) k) ++ [byteAt n 0]
    rw [h, List.cons_append]
    congr 1
    unfold byteAt
    rw [Nat.pow_succ', Nat.div_div_eq_div_mul]
theorem tell_size_next (n : Nat) (h : n < 18446744073709551616) (h0 : n ≠ 0) : tellL n (sizeOf8 n) = tellL (n / 256) (sizeOf8 (n / 256)) ++ [byteAt n 0] := by
  rw [sizeOf8_next n h h0, tell_snoc]
theorem byteAt_zero (n : Nat) : ((byteAt n 0).toNat : Int) = (n : Int) % 256 := by
  rw [byteAt_toNat]; simp

/-- the bytes of n, in memory of one's own -/
def OwnBytes (W : World) (l : List UInt8) (e : Ending) (w' : World) : Prop := ∃ v, e = .returned v ∧ w'.ownsRow W.heap.size 5 1 v l.length (u8s l) ∧ Below W.heap.size W w'
theorem one_lit (W : World) (c : UInt8) : BytesOf (W.alloc (.cells #[.int .u8 c.toNat] 5)) (.slice (some ⟨W.heap.size, 0, none⟩) 1 1) [c] := by
  refine .inr ⟨_, 1, rfl, Nat.le_refl _, fun j hj => ?_⟩
  obtain rfl : j = 0 := by simpa using hj
  simp [go_sem]
set_option maxHeartbeats 1000000 in
theorem high_any : ∀ (f n : Nat), n ≤ f → n < 18446744073709551616 → ∀ W : World, Calls Tryz.prog 102 #[.int .u64 n] W (OwnBytes W (tellL n (sizeOf8 n))) := by
  intro f
  induction f with
  | zero =>
    intro n hn _ W
    obtain rfl : n = 0 := by omega
    rw [sizeOf8_zero]
    unfold OwnBytes
    go_enter Tryz.func102, Tryz.ntmps102
    go_wp2
    go_ret
    exact ⟨_, rfl, World.ownsRow_nil _ _ _ _, Below.refl _ _⟩
  | succ f ih =>
    intro n hn h64 W
    by_cases h0 : n = 0
    · subst h0
      rw [sizeOf8_zero]
      unfold OwnBytes
      go_enter Tryz.func102, Tryz.ntmps102
      go_wp2
      go_ret
      exact ⟨_, rfl, World.ownsRow_nil _ _ _ _, Below.refl _ _⟩
    · have C := ih (n / 256) (by omega) (by omega) W
      rw [show ((n / 256 : Nat) : Int) = (n : Int) / 256 by omega] at C
      have HC := Lib.hid C
      have HT := Lib.hid (tell_size_next n h64 h0)
      have HB := Lib.hid (byteAt_zero n)
      have hl8 := sizeOf8_le (n / 256) (by omega)
      have hn0 : ((n : Int) == 0) = false := by simpa using h0
      have hn64 : (n : Int) ≤ 18446744073709551615 := by omega
      rw [HT.out]
      unfold OwnBytes at HC ⊢
      have hlt := tellL_length (n / 256) (sizeOf8 (n / 256))
      generalize tellL (n / 256) (sizeOf8 (n / 256)) = L at *
      have HL := Lib.hid hlt
      have hl8' : L.length ≤ 8 := by omega
      clear hlt C ih hn h64
      have hb1 := one_lit
      have H1 := Lib.hid hb1
      clear hb1
      generalize byteAt n 0 = c at *
      go_enter Tryz.func102, Tryz.ntmps102
      go_wp2_with fail
      refine HC.out.mono ?_
      rintro e w1 ⟨v, rfl, hown, hb⟩
      have hmod : (n : Int) % 256 = (c.toNat : Int) := HB.out.symm
      go_wp2_with (first | (at_builtin; refine wpList_append_bytes rfl _ _ rfl W.heap.size v _ L.length L [c] rfl rfl (hown.alloc _) rfl (H1.out w1 c) ?c1 ?c2 ?_))
      case c1 => simp; omega
      case c2 => have := hb.size; simp; omega
      intro v2 w2 hown2 hg2
      have hb2 : Below W.heap.size W w2 := (hb.alloc hb.size _).grown hg2 (by have := hb.size; simp; omega) (fun x hx => (hown.lt x hx).1)
      have HO := Lib.hid (And.intro hown2 hb2)
      clear hown hown2 hg2 hb2 hmod
      go_wp2
      go_ret
      refine ⟨_, rfl, ?_, HO.out.2⟩
      have h := HO.out.1
      rw [List.length_append]
      exact h

theorem own_lit (W : World) (B : Nat) (c : UInt8) (hB : B ≤ W.heap.size) : (W.alloc (.cells #[.int .u8 c.toNat] 5)).ownsRow B 5 1 (.slice (some ⟨W.heap.size, 0, none⟩) 1 1) 1 (u8s [c]) :=
  ⟨rfl, .inr ⟨W.heap.size, 1, #[.int .u8 c.toNat], rfl, hB, heap_alloc_new W _, Nat.le_refl _, by decide, rfl, rfl⟩⟩
end Go.Proofs.YtbhgcioeibhjeaaGreatDoor
namespace Go.Proofs.YtbhgcioeibhjeaaGreatDoor
open Go.RowKit

set_option maxHeartbeats 1000000 in
theorem read_any (v : Value) (l : List UInt8) (w : World) (hv : BytesAt w v l) (hl : l.length ≤ 8) :
    Calls Tryz.prog 95 #[v] w fun e w' => e = .returned (.int .u64 (valOf l 0 : Nat)) ∧ w = w' := by
  obtain ⟨oa, cap, rfl, _, hv⟩ := hv
  have HV := Lib.hid hv
  clear hv
  go_enter Tryz.func95, Tryz.ntmps95
  go_wp2
  go_loop [3, 4] (fun s i => ∃ (k c : Nat), k ≤ l.length ∧ Hid (c < 256 ^ k) ∧ i = .int .i64 k ∧ s = .int .u64 c ∧ Hid (valOf l 0 = valOf (l.drop k) c)) (fun _ i => l.length - (intOf i).toNat)
  case atStart => exact ⟨0, 0, by omega, Lib.hid (by decide), rfl, rfl, Lib.hid rfl⟩
  case round =>
    obtain ⟨k, c, hk, HP, rfl, rfl, HC⟩ := hrel
    by_cases hlt : k < l.length
    · obtain ⟨a, rfl, hcell⟩ := HV.out k hlt
      have HN := Lib.hid (HC.out.trans (valOf_next hlt c))
      obtain ⟨x, hx⟩ : ∃ x, l[k] = x := ⟨_, rfl⟩
      rw [hx] at hcell HN
      have hx256 := x.toNat_lt
      have hc7 : c < 72057594037927936 := by
        have h1 := HP.out
        have h2 := Nat.pow_le_pow_right (n := 256) (by decide) (show k ≤ 7 by omega)
        have h3 : (256 : Nat) ^ 7 = 72057594037927936 := by decide
        omega
      have HX := Lib.hid (pow_next HP.out x)
      clear hx HC HP
      go_wp2
      go_round
      case rel => exact ⟨k + 1, c * 256 + x.toNat, by omega, HX, by go_num, by go_num, HN⟩
      case measure => simp [intOf]; omega
    · obtain rfl : k = l.length := by omega
      have h := HC.out
      rw [List.drop_length] at h
      have H := Lib.hid h
      clear h
      go_wp2
      go_ret
      exact ⟨by rw [H.out]; rfl, rfl⟩

set_option maxHeartbeats 1000000 in
theorem rReadFixed_any (v : Value) (l : List UInt8) (w : World) (hv : BytesAt w v l) (hl : l.length ≤ 1000000) :
    Calls Tryz.prog 75 #[v] w fun e w' => e = .returned (if 1 ≤ l.length ∧ l.length ≤ 8 then .tuple #[.int .u64 (valOf l 0 : Nat), .int .i64 0] else .tuple #[.int .u64 0, .int .i64 2]) ∧ w = w' := by
  have hv' := hv
  obtain ⟨oa, cap, rfl, _, _⟩ := hv'
  by_cases h1 : l.length < 1
  · rw [if_neg (by omega)]
    clear hv
    go_enter Tryz.func75, Tryz.ntmps75
    go_wp2
    go_ret2
    exact ⟨rfl, rfl⟩
  · by_cases h8 : 8 < l.length
    · rw [if_neg (by omega)]
      clear hv
      go_enter Tryz.func75, Tryz.ntmps75
      go_wp2
      go_ret2
      exact ⟨rfl, rfl⟩
    · rw [if_pos (by omega)]
      have HC := Lib.hid (read_any _ l w hv (by omega))
      clear hv
      go_enter Tryz.func75, Tryz.ntmps75
      go_wp2_with (first | (go_at_call 95; refine HC.out.mono ?_; rintro e w' ⟨rfl, rfl⟩))
      go_ret2
      exact ⟨rfl, rfl⟩
set_option maxHeartbeats 1000000 in
theorem ReadFixed_any (v : Value) (l : List UInt8) (w : World) (hv : BytesAt w v l) (hl : l.length ≤ 1000000) :
    Calls Tryz.prog 94 #[v] w fun e w' => e = .returned (if 1 ≤ l.length ∧ l.length ≤ 8 then .tuple #[.int .u64 (valOf l 0 : Nat), .int .i64 0] else .tuple #[.int .u64 0, .int .i64 2]) ∧ w = w' := by
  have hv' := hv
  obtain ⟨oa, cap, rfl, _, _⟩ := hv'
  by_cases h1 : l.length < 1
  · rw [if_neg (by omega)]
    clear hv
    go_enter Tryz.func94, Tryz.ntmps94
    go_wp2
    go_ret2
    exact ⟨rfl, rfl⟩
  · by_cases h8 : 8 < l.length
    · rw [if_neg (by omega)]
      clear hv
      go_enter Tryz.func94, Tryz.ntmps94
      go_wp2
      go_ret2
      exact ⟨rfl, rfl⟩
    · rw [if_pos (by omega)]
      have HC := Lib.hid (join_any _ l w hv (by omega))
      clear hv
      go_enter Tryz.func94, Tryz.ntmps94
      go_wp2_with (first | (go_at_call 105; refine HC.out.mono ?_; rintro e w' ⟨rfl, rfl⟩))
      go_ret2
      exact ⟨rfl, rfl⟩

/-- b[i:i+k] of a slice of room cap -/
theorem BytesAt.cut {w : World} {oa : Option Addr} {cap i k : Nat} {l : List UInt8} (h : BytesAt w (.slice oa l.length cap) l) (hi : i + k ≤ l.length) (ob : Option Addr) (hob : ob = if cap = i then oa else oa.map (·.add i)) (c : Nat) (hc : k ≤ c) : BytesAt w (.slice ob k c) ((l.drop i).take k) := by
  obtain ⟨oa', cap', he, hcap, hcell⟩ := h
  cases he
  have hl : ((l.drop i).take k).length = k := by rw [List.length_take, List.length_drop]; omega
  refine ⟨ob, c, by rw [hl], by omega, fun j hj => ?_⟩
  rw [hl] at hj
  obtain ⟨a, rfl, ha⟩ := hcell (i + j) (by omega)
  rw [hob, if_neg (by omega)]
  refine ⟨_, rfl, ?_⟩
  rw [Addr.add_add, ha]
  simp

end Go.Proofs.YtbhgcioeibhjeaaGreatDoor
namespace Go.Proofs.YtbhgcioeibhjeaaGreatDoor
open Go.RowKit

theorem tell_pad (n : Nat) (hn : n < 18446744073709551616) : ∀ m, sizeOf8 n ≤ m → tellL n m = List.replicate (m - sizeOf8 n) 0 ++ tellL n (sizeOf8 n)
  | 0, h => by
    have : sizeOf8 n = 0 := by omega
    rw [this]; rfl
  | m + 1, h => by
    by_cases he : sizeOf8 n = m + 1
    · rw [he, Nat.sub_self]; rfl
    · have ih := tell_pad n hn m (by omega)
      have h0 : byteAt n m = 0 := by
        apply UInt8.toNat_inj.1
        rw [byteAt_toNat, Nat.div_eq_of_lt (Nat.lt_of_lt_of_le (sizeOf8_lt n hn) (Nat.pow_le_pow_right (by decide) (by omega)))]
        rfl
      show byteAt n m :: tellL n m = _
      rw [h0, ih, show m + 1 - sizeOf8 n = (m - sizeOf8 n) + 1 by omega, List.replicate_succ]
      rfl
theorem own_zeros (W : World) (B k : Nat) (hB : B ≤ W.heap.size) (hk : k ≤ 8) : (W.alloc (.cells (madeCells #[.int .u8 0] k) 5)).ownsRow B 5 1 (.slice (some ⟨W.heap.size, 0, none⟩) k k) k (u8s (List.replicate k 0)) := by
  refine ⟨by simp [u8s], .inr ⟨W.heap.size, k, _, rfl, hB, heap_alloc_new W _, Nat.le_refl _, by unfold maxLen; omega, ?_, ?_⟩⟩
  · rw [size_madeCells]; omega
  · rw [toList_madeCells_one, List.take_of_length_le (by simp)]
    simp [u8s]
set_option maxHeartbeats 1000000 in
theorem rFixed_any (n : Nat) (many : Int) (w : World) (hn : n < 18446744073709551616) :
    Calls Tryz.prog 88 #[.int .u64 n, .int .i64 many] w fun e w' => ∃ v, e = .returned (.tuple #[v, .int .i64 (fixNo n many)]) ∧ BytesOf w' v (fixL n many) ∧ Below w.heap.size w w' := by
  by_cases h1 : many < 1
  · have hno : fixNo n many = 2 := by unfold fixNo; rw [if_pos (.inl h1)]
    have hl : fixL n many = [] := by unfold fixL; rw [hno]; rfl
    rw [hno, hl]
    clear hno hl
    go_enter Tryz.func88, Tryz.ntmps88
    go_wp2
    go_ret2
    exact ⟨_, rfl, .inl ⟨rfl, rfl⟩, Below.refl _ _⟩
  · by_cases h8 : 8 < many
    · have hno : fixNo n many = 2 := by unfold fixNo; rw [if_pos (.inr h8)]
      have hl : fixL n many = [] := by unfold fixL; rw [hno]; rfl
      rw [hno, hl]
      clear hno hl
      go_enter Tryz.func88, Tryz.ntmps88
      go_wp2
      go_ret2
      exact ⟨_, rfl, .inl ⟨rfl, rfl⟩, Below.refl _ _⟩
    · obtain ⟨m, rfl⟩ := Int.eq_ofNat_of_zero_le (show 0 ≤ many by omega)
      have C := high_any n n (Nat.le_refl _) hn w
      obtain ⟨k, hk⟩ : ∃ k, sizeOf8 n = k := ⟨_, rfl⟩
      have hlen := tellL_length n (sizeOf8 n)
      have hpad := tell_pad n hn m
      unfold OwnBytes at C
      rw [hk] at C hlen hpad
      generalize hL : tellL n k = L at C hlen hpad
      by_cases h4 : (m : Int) < k
      · have hno : fixNo n m = 4 := by unfold fixNo; rw [if_neg (by omega), hk, if_pos h4]
        have hl : fixL n m = [] := by unfold fixL; rw [hno]; rfl
        rw [hno, hl]
        have hlk : (m : Int) < L.length := by omega
        have HC := Lib.hid C
        clear hno hl hk hlen hpad hL C hn h4
        go_enter Tryz.func88, Tryz.ntmps88
        go_wp2_with fail
        refine HC.out.mono ?_
        rintro e w1 ⟨v, rfl, hown, hb⟩
        obtain ⟨oa, cap, rfl, _⟩ := (BytesOf.own hown).at
        clear hown
        go_wp2_with fail
        go_ret2
        exact ⟨_, rfl, .inl ⟨rfl, rfl⟩, hb⟩
      · have hno : fixNo n m = 0 := by unfold fixNo; rw [if_neg (by omega), hk, if_neg h4]
        have hl : fixL n m = List.replicate (m - L.length) 0 ++ L := by
          have h0 := hpad (by omega)
          unfold fixL; rw [hno, if_pos rfl, Int.toNat_natCast, h0, hlen]
        rw [hno, hl]
        have hlk : L.length ≤ m := by omega
        have HC := Lib.hid C
        clear hno hl hk hlen hpad hL C hn h4
        obtain ⟨K, hK⟩ : ∃ K, K = m - L.length := ⟨_, rfl⟩
        rw [← hK]
        have hsub : (m : Int) - (L.length : Int) = (K : Int) := by omega
        have hK8 : K ≤ 8 := by omega
        have hL8 : L.length ≤ 8 := by omega
        have HOZ := Lib.hid own_zeros
        clear hK
        have hmk : ∀ W, (Instr.makeSlice 43 (.int .i64 (K : Int)) (.int .i64 (K : Int))).run Tryz.prog W = .ok (.slice (some ⟨W.heap.size, 0, none⟩) K K) (W.alloc (.cells (madeCells #[.int .u8 0] K) 5)) :=
          run_make_row' 43 5 (.int .u8 0) 1 Tryz.underlying43 infoU8 rfl .i64 .i64 K (by omega) (by omega)
        go_enter Tryz.func88, Tryz.ntmps88
        go_wp2_with fail
        refine HC.out.mono ?_
        rintro e w1 ⟨v, rfl, hown, hb⟩
        have HV := Lib.hid (BytesOf.own hown)
        obtain ⟨oa, cap, rfl, _⟩ := HV.out.at
        have hbs := hb.size
        have HB := Lib.hid hb
        clear hown hb
        go_wp2_with (first | (at_builtin; refine wpList_append_bytes rfl _ _ rfl w.heap.size _ (.slice oa L.length cap) K (List.replicate K 0) L rfl rfl (HOZ.out w1 w.heap.size K hbs hK8) (by simp) (HV.out.keep ((Below.refl _ _).alloc (Nat.le_refl _) _) (Nat.le_refl _)) ?c1 ?c2 ?_))
        case c1 => omega
        case c2 => simp; omega
        intro v2 w2 hown2 hg2
        have hb2 : Below w.heap.size w w2 := (HB.out.alloc hbs _).grown hg2 (by simp; omega) (fun x hx => by cases hx; exact hbs)
        have HF := Lib.hid (And.intro hown2 hb2)
        clear hown2 hg2 hb2
        go_wp2
        go_ret2
        refine ⟨_, rfl, BytesOf.own (B := w.heap.size) ?_, HF.out.2⟩
        have h := HF.out.1
        rw [List.length_append, List.length_replicate]
        exact h
end Go.Proofs.YtbhgcioeibhjeaaGreatDoor
namespace Go.Proofs.YtbhgcioeibhjeaaGreatDoor
open Go.RowKit

set_option maxHeartbeats 1000000 in
theorem rSum_any (v : Value) (l : List UInt8) (w : World) (hv : BytesAt w v l) (hl : l.length ≤ 1000000) :
    Calls Tryz.prog 76 #[v] w fun e w' => e = .returned (.int .u32 (crc l)) ∧ w = w' := by
  obtain ⟨oa, cap, rfl, _, hv⟩ := hv
  have HV := Lib.hid hv
  clear hv
  go_enter Tryz.func76, Tryz.ntmps76
  go_wp2
  go_loop [3, 4] (fun s i => ∃ (j d : Nat), j ≤ l.length ∧ d < 4294967296 ∧ i = .int .i64 j ∧ s = .int .u32 d ∧ Hid (crcGo 4294967295 l = crcGo d (l.drop j))) (fun _ i => l.length - (intOf i).toNat)
  case atStart => exact ⟨0, 4294967295, by omega, by omega, rfl, rfl, Lib.hid rfl⟩
  case round =>
    obtain ⟨j, d, hj, hd, rfl, rfl, HD⟩ := hrel
    by_cases hlj : j < l.length
    · obtain ⟨ab, rfl, hbyte⟩ := HV.out j hlj
      have hm := HD.out.trans (row_next hlj d)
      obtain ⟨x, hx⟩ : ∃ x, l[j] = x := ⟨_, rfl⟩
      rw [hx] at hbyte hm
      unfold crcByte at hm
      have hx256 := x.toNat_lt
      have hxor : bits BinOp.xor IntKind.u32 (d : Int) (x.toNat : Int) = ((d ^^^ x.toNat : Nat) : Int) := u32_xor_nat d x.toNat hd (by omega)
      have hlt32 := xor_lt32 d x hd
      have HM := Lib.hid hm
      clear hx HD hm
      generalize d ^^^ x.toNat = t at *
      go_wp2
      go_loop [3, 5] (fun s i => ∃ (q d : Nat), q ≤ 8 ∧ d < 4294967296 ∧ i = .int .i64 q ∧ s = .int .u32 d ∧ Hid (crcGo 4294967295 l = crcGo (crcBits (8 - q) d) (l.drop (j + 1)))) (fun _ i => 8 - (intOf i).toNat)
      case atStart => exact ⟨0, t, by omega, hlt32, rfl, rfl, HM⟩
      case round =>
        clear HM hxor hlt32
        obtain ⟨q, e, hq, he, rfl, rfl, HE⟩ := hrel
        by_cases hq8 : q < 8
        · rcases Nat.mod_two_eq_zero_or_one e with h2 | h2
          · have hb : ((e : Int) % 2 == 1) = false := by rw [beq_eq_false_iff_ne]; omega
            have hcb : crcBit e = e / 2 := by unfold crcBit; rw [h2, if_neg (by decide), Nat.xor_zero]
            have HCB := Lib.hid hcb
            clear hcb h2
            go_wp2
            go_round
            case rel => exact ⟨q + 1, crcBit e, by omega, crcBit_lt e he, by go_num, by rw [HCB.out]; go_num, Lib.hid (by rw [HE.out, show 8 - q = (8 - (q + 1)) + 1 by omega]; rfl)⟩
            case measure => simp [intOf]; omega
          · have hb : ((e : Int) % 2 == 1) = true := by rw [beq_iff_eq]; omega
            have hcb : bits BinOp.xor IntKind.u32 ((e : Int) / 2) 2197175160 = ((crcBit e : Nat) : Int) := by
              unfold crcBit
              rw [h2, if_pos rfl]
              exact u32_xor_nat (e / 2) 2197175160 (by omega) (by omega)
            have HCB := Lib.hid hcb
            clear hcb h2
            go_wp2
            go_round
            case rel => exact ⟨q + 1, crcBit e, by omega, crcBit_lt e he, by go_num, by rw [HCB.out], Lib.hid (by rw [HE.out, show 8 - q = (8 - (q + 1)) + 1 by omega]; rfl)⟩
            case measure => simp [intOf]; omega
        · obtain rfl : q = 8 := by omega
          go_wp2
          go_round
          case rel => exact ⟨j + 1, e, by omega, he, by go_num, rfl, Lib.hid HE.out⟩
          case measure => simp [intOf]; omega
    · obtain rfl : j = l.length := by omega
      go_wp2
      go_ret
      refine ⟨?_, rfl⟩
      have h := HD.out
      rw [List.drop_length] at h
      unfold crc
      rw [h]
      exact ret_i (not_u32 d hd)
end Go.Proofs.YtbhgcioeibhjeaaGreatDoor
