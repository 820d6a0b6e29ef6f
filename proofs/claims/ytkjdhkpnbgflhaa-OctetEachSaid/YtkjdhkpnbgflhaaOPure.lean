/-
  Bytes of numbers, as lists: no program.
-/
import Derived.Lib.ItoaNum
import Derived.Laws.BitsAllLaws
import Derived.Laws.Strings
namespace Go.Proofs.Ytkjdhkpnbgflhaa

/-- the bytes of n, k of them, the highest first -/
def byteAt (n k : Nat) : UInt8 := UInt8.ofNat (n / 256 ^ k)
def tellL (n : Nat) : Nat → List UInt8
  | 0 => []
  | k + 1 => byteAt n k :: tellL n k
theorem tellL_length (n : Nat) : ∀ k, (tellL n k).length = k
  | 0 => rfl
  | k + 1 => by simp [tellL, tellL_length n k]
theorem byteAt_toNat (n k : Nat) : (byteAt n k).toNat = n / 256 ^ k % 256 := by
  unfold byteAt
  rw [UInt8.toNat_ofNat']
/-- how many bytes n needs -/
def sizeOf8 (n : Nat) : Nat := (Lib.bitLen n + 7) / 8
theorem sizeOf8_zero : sizeOf8 0 = 0 := by
  unfold sizeOf8 Lib.bitLen
  rw [Lib.bitLenAux_zero]
theorem pow256 (k : Nat) : 256 ^ k = 2 ^ (8 * k) := by rw [Nat.pow_mul]
theorem sizeOf8_bd (n : Nat) (h : n < 18446744073709551616) (h0 : n ≠ 0) : 1 ≤ sizeOf8 n ∧ 256 ^ (sizeOf8 n - 1) ≤ n ∧ n < 256 ^ sizeOf8 n := by
  obtain ⟨a, b, c⟩ := Lib.bitLenAux_bounds 64 n h h0
  unfold sizeOf8 Lib.bitLen
  generalize Lib.bitLenAux 64 n = L at a b c ⊢
  refine ⟨by omega, ?_, ?_⟩
  · rw [pow256]
    exact Nat.le_trans (Nat.pow_le_pow_right (by decide) (by omega)) b
  · rw [pow256]
    exact Nat.lt_of_lt_of_le c (Nat.pow_le_pow_right (by decide) (by omega))
theorem sizeOf8_lt (n : Nat) (h : n < 18446744073709551616) : n < 256 ^ sizeOf8 n := by
  by_cases h0 : n = 0
  · subst h0; rw [sizeOf8_zero]; decide
  · exact (sizeOf8_bd n h h0).2.2
theorem sizeOf8_le (n : Nat) (h : n < 18446744073709551616) : sizeOf8 n ≤ 8 := by
  have := Lib.bitLen_le n 64 (Nat.le_refl _) h
  unfold sizeOf8
  omega
/-- what needs at most k bytes is below 256^k -/
theorem sizeOf8_le_iff (n k : Nat) (h : n < 18446744073709551616) : sizeOf8 n ≤ k ↔ n < 256 ^ k := by
  constructor
  · intro hk
    exact Nat.lt_of_lt_of_le (sizeOf8_lt n h) (Nat.pow_le_pow_right (by decide) hk)
  · intro hk
    by_cases h0 : n = 0
    · subst h0; rw [sizeOf8_zero]; omega
    · obtain ⟨a, b, _⟩ := sizeOf8_bd n h h0
      rcases Nat.lt_or_ge k (sizeOf8 n) with hl | hl
      · have := Nat.pow_le_pow_right (n := 256) (by decide) (show k ≤ sizeOf8 n - 1 by omega)
        omega
      · exact hl
theorem sizeOf8_mono (m n : Nat) (hn : n < 18446744073709551616) (h : m ≤ n) : sizeOf8 m ≤ sizeOf8 n :=
  (sizeOf8_le_iff m _ (by omega)).2 (Nat.lt_of_le_of_lt h (sizeOf8_lt n hn))

/-- the number of bytes, the highest first, behind a -/
def valOf (l : List UInt8) (a : Nat) : Nat := l.foldl (fun n x => n * 256 + x.toNat) a
theorem valOf_tell (n : Nat) : ∀ k a, valOf (tellL n k) a = a * 256 ^ k + n % 256 ^ k
  | 0, a => by simp [tellL, valOf, Nat.mod_one]
  | k + 1, a => by
    show valOf (tellL n k) (a * 256 + (byteAt n k).toNat) = _
    rw [valOf_tell n k, byteAt_toNat, Nat.pow_succ, Nat.mod_mul, Nat.add_mul, Nat.mul_assoc, Nat.mul_comm 256 (256 ^ k), Nat.mul_comm (n / 256 ^ k % 256)]
    omega
theorem valOf_size (n : Nat) (h : n < 18446744073709551616) : valOf (tellL n (sizeOf8 n)) 0 = n := by
  rw [valOf_tell, Nat.mod_eq_of_lt (sizeOf8_lt n h)]; omega
theorem valOf_lt : ∀ (l : List UInt8) (a : Nat), valOf l a < (a + 1) * 256 ^ l.length
  | [], a => by simp [valOf]
  | x :: l, a => by
    have h := valOf_lt l (a * 256 + x.toNat)
    have hx := x.toNat_lt
    show valOf l (a * 256 + x.toNat) < _
    rw [List.length_cons, Nat.pow_succ]
    refine Nat.lt_of_lt_of_le h ?_
    rw [show (a + 1) * (256 ^ l.length * 256) = ((a + 1) * 256) * 256 ^ l.length by rw [Nat.mul_comm (256 ^ l.length) 256, Nat.mul_assoc]]
    exact Nat.mul_le_mul_right _ (by omega)
theorem valOf_lt8 (l : List UInt8) (h : l.length ≤ 8) : valOf l 0 < 18446744073709551616 := by
  have h1 := valOf_lt l 0
  have h2 := Nat.pow_le_pow_right (n := 256) (by decide) h
  have : (256 : Nat) ^ 8 = 18446744073709551616 := by decide
  omega
theorem valOf_snoc (l : List UInt8) (x : UInt8) (a : Nat) : valOf (l ++ [x]) a = valOf l a * 256 + x.toNat := by
  unfold valOf; rw [List.foldl_append]; rfl
/-- bytes of a value are its bytes -/
theorem tell_valOf : ∀ (l : List UInt8) (a : Nat), tellL (valOf l a) l.length = l
  | [], _ => rfl
  | x :: l, a => by
    have h := tell_valOf l (a * 256 + x.toNat)
    show byteAt (valOf l (a * 256 + x.toNat)) l.length :: tellL (valOf l (a * 256 + x.toNat)) l.length = x :: l
    rw [h]
    congr 1
    apply UInt8.toNat_inj.1
    rw [byteAt_toNat]
    have key : valOf l (a * 256 + x.toNat) / 256 ^ l.length = a * 256 + x.toNat := by
      have h1 := valOf_lt l (a * 256 + x.toNat)
      have h2 : (a * 256 + x.toNat) * 256 ^ l.length ≤ valOf l (a * 256 + x.toNat) := by
        generalize a * 256 + x.toNat = c
        clear h h1
        induction l generalizing c with
        | nil => simp [valOf]
        | cons y l ih =>
          have := ih (c * 256 + y.toNat)
          show _ ≤ valOf l (c * 256 + y.toNat)
          refine Nat.le_trans ?_ this
          rw [List.length_cons, Nat.pow_succ, Nat.mul_comm (256 ^ l.length) 256, ← Nat.mul_assoc]
          exact Nat.mul_le_mul_right _ (by omega)
      exact Nat.div_eq_of_lt_le h2 h1
    rw [key]
    have := x.toNat_lt
    omega

/-- a number's bytes -/
def numB (n : Nat) : List UInt8 := UInt8.ofNat (sizeOf8 n) :: tellL n (sizeOf8 n)
theorem numB_length (n : Nat) : (numB n).length = 1 + sizeOf8 n := by simp [numB, tellL_length]; omega
theorem numB_head (n : Nat) (h : n < 18446744073709551616) : (UInt8.ofNat (sizeOf8 n)).toNat = sizeOf8 n := by
  have := sizeOf8_le n h
  rw [UInt8.toNat_ofNat']; omega
theorem tell_head (n : Nat) (h : n < 18446744073709551616) (h0 : n ≠ 0) : byteAt n (sizeOf8 n - 1) ≠ 0 := by
  obtain ⟨a, b, c⟩ := sizeOf8_bd n h h0
  intro hz
  have h1 := byteAt_toNat n (sizeOf8 n - 1)
  rw [hz] at h1
  have h2 : n / 256 ^ (sizeOf8 n - 1) < 256 := by
    rw [Nat.div_lt_iff_lt_mul (Nat.pow_pos (by decide)), Nat.mul_comm, ← Nat.pow_succ, show (sizeOf8 n - 1).succ = sizeOf8 n by omega]
    exact c
  have h3 : 0 < n / 256 ^ (sizeOf8 n - 1) := Nat.div_pos b (Nat.pow_pos (by decide))
  rw [Nat.mod_eq_of_lt h2] at h1
  have h4 : (0 : UInt8).toNat = 0 := rfl
  omega

/-- the number with whose bytes l begins, and how many these are -/
def readN : List UInt8 → Option (Nat × Nat)
  | [] => none
  | h :: t => if h.toNat ≤ 8 ∧ h.toNat ≤ t.length ∧ ¬ (0 < h.toNat ∧ t.head? = some 0) then some (valOf (t.take h.toNat) 0, 1 + h.toNat) else none
theorem readN_cons (h : UInt8) (t : List UInt8) : readN (h :: t) = if h.toNat ≤ 8 ∧ h.toNat ≤ t.length ∧ ¬ (0 < h.toNat ∧ t.head? = some 0) then some (valOf (t.take h.toNat) 0, 1 + h.toNat) else none := rfl
theorem readN_numB (n : Nat) (l : List UInt8) (h : n < 18446744073709551616) : readN (numB n ++ l) = some (n, 1 + sizeOf8 n) := by
  have h8 := sizeOf8_le n h
  show readN (UInt8.ofNat (sizeOf8 n) :: (tellL n (sizeOf8 n) ++ l)) = _
  rw [readN_cons, numB_head n h, if_pos]
  · rw [List.take_left' (tellL_length n _), valOf_size n h]
  · refine ⟨h8, by simp [tellL_length], ?_⟩
    rintro ⟨hp, hh⟩
    have h0 : n ≠ 0 := by rintro rfl; rw [sizeOf8_zero] at hp; omega
    have hd := tell_head n h h0
    obtain ⟨k, hk⟩ : ∃ k, sizeOf8 n = k + 1 := ⟨sizeOf8 n - 1, by omega⟩
    rw [hk] at hh hd
    simp [tellL] at hh
    exact hd hh
theorem readN_lt {l : List UInt8} {n k : Nat} (h : readN l = some (n, k)) : n < 18446744073709551616 ∧ 1 ≤ k ∧ k ≤ 9 ∧ k ≤ l.length := by
  cases l with
  | nil => simp [readN] at h
  | cons c t =>
    rw [readN_cons] at h
    split at h
    · rename_i hc
      simp only [Option.some.injEq, Prod.mk.injEq] at h
      obtain ⟨rfl, rfl⟩ := h
      refine ⟨valOf_lt8 _ (by rw [List.length_take]; omega), by omega, by omega, ?_⟩
      simp; omega
    · cases h

/-- the numbers' bytes stand in their order -/
theorem bytesLess_cons (a b : UInt8) (x y : List UInt8) : Op.bytesLess (a :: x) (b :: y) = (decide (a < b) || (a == b && Op.bytesLess x y)) := rfl
theorem tell_less (m n : Nat) : ∀ k, m < 256 ^ k → n < 256 ^ k → Op.bytesLess (tellL m k) (tellL n k) = decide (m % 256 ^ k < n % 256 ^ k) := by
  intro k hm hn
  have key : ∀ k, Op.bytesLess (tellL m k) (tellL n k) = decide (m % 256 ^ k < n % 256 ^ k) := by
    intro k
    induction k with
    | zero => simp [tellL, Op.bytesLess, Nat.mod_one]
    | succ k ih =>
      show Op.bytesLess (byteAt m k :: tellL m k) (byteAt n k :: tellL n k) = _
      rw [bytesLess_cons, ih, Nat.pow_succ, Nat.mod_mul, Nat.mod_mul]
      have e1 : (byteAt m k < byteAt n k) ↔ m / 256 ^ k % 256 < n / 256 ^ k % 256 := by rw [UInt8.lt_iff_toNat_lt, byteAt_toNat, byteAt_toNat]
      have e2 : (byteAt m k = byteAt n k) ↔ m / 256 ^ k % 256 = n / 256 ^ k % 256 := by rw [← UInt8.toNat_inj, byteAt_toNat, byteAt_toNat]
      have hp : 0 < 256 ^ k := Nat.pow_pos (by decide)
      have l1 := Nat.mod_lt m hp
      have l2 := Nat.mod_lt n hp
      generalize m / 256 ^ k % 256 = a at e1 e2 ⊢
      generalize n / 256 ^ k % 256 = b at e1 e2 ⊢
      generalize m % 256 ^ k = c at l1 ⊢
      generalize n % 256 ^ k = d at l2 ⊢
      generalize 256 ^ k = P at hp l1 l2 ⊢
      rw [Bool.eq_iff_iff]
      simp only [Bool.or_eq_true, decide_eq_true_eq, Bool.and_eq_true, beq_iff_eq, e1, e2]
      constructor
      · rintro (h | ⟨rfl, h⟩)
        · have := Nat.mul_le_mul_left P (show a + 1 ≤ b by omega)
          rw [Nat.mul_add] at this
          omega
        · omega
      · intro h
        rcases Nat.lt_trichotomy a b with h1 | h1 | h1
        · exact .inl h1
        · subst h1; exact .inr ⟨rfl, by omega⟩
        · have := Nat.mul_le_mul_left P (show b + 1 ≤ a by omega)
          rw [Nat.mul_add] at this
          omega
  exact key k
theorem numB_less (m n : Nat) (hm : m < 18446744073709551616) (hn : n < 18446744073709551616) : Op.bytesLess (numB m) (numB n) = decide (m < n) := by
  unfold numB
  rw [bytesLess_cons]
  have e1 : (UInt8.ofNat (sizeOf8 m) < UInt8.ofNat (sizeOf8 n)) ↔ sizeOf8 m < sizeOf8 n := by rw [UInt8.lt_iff_toNat_lt, numB_head m hm, numB_head n hn]
  have e2 : (UInt8.ofNat (sizeOf8 m) = UInt8.ofNat (sizeOf8 n)) ↔ sizeOf8 m = sizeOf8 n := by rw [← UInt8.toNat_inj, numB_head m hm, numB_head n hn]
  rw [Bool.eq_iff_iff]
  simp only [Bool.or_eq_true, decide_eq_true_eq, Bool.and_eq_true, beq_iff_eq, e1, e2]
  constructor
  · rintro (h | ⟨h, h2⟩)
    · rcases Nat.lt_or_ge m n with h1 | h1
      · exact h1
      · have := sizeOf8_mono n m hm h1; omega
    · rw [h, tell_less m n _ (h ▸ sizeOf8_lt m hm) (sizeOf8_lt n hn), decide_eq_true_eq, Nat.mod_eq_of_lt (h ▸ sizeOf8_lt m hm), Nat.mod_eq_of_lt (sizeOf8_lt n hn)] at h2
      exact h2
  · intro h
    have := sizeOf8_mono m n hn (by omega)
    rcases Nat.lt_or_ge (sizeOf8 m) (sizeOf8 n) with h1 | h1
    · exact .inl h1
    · have e : sizeOf8 m = sizeOf8 n := by omega
      refine .inr ⟨e, ?_⟩
      rw [e, tell_less m n _ (e ▸ sizeOf8_lt m hm) (sizeOf8_lt n hn), decide_eq_true_eq, Nat.mod_eq_of_lt (e ▸ sizeOf8_lt m hm), Nat.mod_eq_of_lt (sizeOf8_lt n hn)]
      exact h
theorem numB_pre (m n : Nat) (l : List UInt8) (hm : m < 18446744073709551616) (hn : n < 18446744073709551616) (h : numB n = numB m ++ l) : m = n := by
  have h1 := readN_numB m l hm
  have h2 := readN_numB n [] hn
  rw [List.append_nil, h, h1] at h2
  simp only [Option.some.injEq, Prod.mk.injEq] at h2
  exact h2.1
theorem numB_inj (m n : Nat) (hm : m < 18446744073709551616) (hn : n < 18446744073709551616) (h : numB m = numB n) : m = n :=
  numB_pre m n [] hm hn (by rw [List.append_nil, h])

/-- a sum, bit by bit, byte by byte -/
def crcBit (s : Nat) : Nat := s / 2 ^^^ (if s % 2 = 1 then 2197175160 else 0)
def crcBits : Nat → Nat → Nat
  | 0, s => s
  | k + 1, s => crcBits k (crcBit s)
def crcByte (s : Nat) (x : UInt8) : Nat := crcBits 8 (s ^^^ x.toNat)
def crcGo (s : Nat) (l : List UInt8) : Nat := l.foldl crcByte s
def crc (l : List UInt8) : Nat := 4294967295 - crcGo 4294967295 l
theorem crcBit_lt (s : Nat) (h : s < 4294967296) : crcBit s < 4294967296 := by
  unfold crcBit
  have h1 : s / 2 < 2 ^ 32 := by omega
  have h2 : (if s % 2 = 1 then 2197175160 else 0) < 2 ^ 32 := by split <;> decide
  exact Nat.xor_lt_two_pow h1 h2
theorem crcBits_lt : ∀ (k s : Nat), s < 4294967296 → crcBits k s < 4294967296
  | 0, _, h => h
  | k + 1, s, h => crcBits_lt k _ (crcBit_lt s h)
theorem xor_lt32 (s : Nat) (x : UInt8) (h : s < 4294967296) : s ^^^ x.toNat < 4294967296 := by
  have hx := x.toNat_lt
  have h1 : s < 2 ^ 32 := by omega
  have h2 : x.toNat < 2 ^ 32 := by omega
  exact Nat.xor_lt_two_pow h1 h2
theorem crcByte_lt (s : Nat) (x : UInt8) (h : s < 4294967296) : crcByte s x < 4294967296 := crcBits_lt 8 _ (xor_lt32 s x h)
theorem crcGo_lt : ∀ (l : List UInt8) (s : Nat), s < 4294967296 → crcGo s l < 4294967296
  | [], _, h => h
  | x :: l, s, h => crcGo_lt l _ (crcByte_lt s x h)
theorem crcBit_top (s : Nat) (h : s < 4294967296) : (crcBit s).testBit 31 = decide (s % 2 = 1) := by
  unfold crcBit
  rw [Nat.testBit_xor]
  have h1 : (s / 2).testBit 31 = false := Nat.testBit_lt_two_pow (by omega)
  rw [h1]
  split
  · rename_i hc; simp [hc]; decide
  · rename_i hc; simp [hc]
theorem xor_cancel_l {a b c : Nat} (h : a ^^^ b = a ^^^ c) : b = c := by
  have e := congrArg (a ^^^ ·) h
  simpa [← Nat.xor_assoc] using e
theorem xor_cancel_r {a b c : Nat} (h : a ^^^ c = b ^^^ c) : a = b := by
  rw [Nat.xor_comm a, Nat.xor_comm b] at h
  exact xor_cancel_l h
theorem crcBit_inj (a b : Nat) (ha : a < 4294967296) (hb : b < 4294967296) (h : crcBit a = crcBit b) : a = b := by
  have h1 : decide (a % 2 = 1) = decide (b % 2 = 1) := by rw [← crcBit_top a ha, ← crcBit_top b hb, h]
  have h2 : a % 2 = b % 2 := by
    have := decide_eq_decide.1 h1
    omega
  have h3 : a / 2 = b / 2 := by
    unfold crcBit at h
    rw [h2] at h
    exact xor_cancel_r h
  omega
theorem crcBits_inj : ∀ (k a b : Nat), a < 4294967296 → b < 4294967296 → crcBits k a = crcBits k b → a = b
  | 0, _, _, _, _, h => h
  | k + 1, a, b, ha, hb, h => crcBit_inj a b ha hb (crcBits_inj k _ _ (crcBit_lt a ha) (crcBit_lt b hb) h)
theorem crcGo_inj : ∀ (l : List UInt8) (a b : Nat), a < 4294967296 → b < 4294967296 → crcGo a l = crcGo b l → a = b
  | [], _, _, _, _, h => h
  | x :: l, a, b, ha, hb, h => by
    have h1 := crcGo_inj l _ _ (crcByte_lt a x ha) (crcByte_lt b x hb) h
    have h2 := crcBits_inj 8 _ _ (xor_lt32 a x ha) (xor_lt32 b x hb) h1
    exact xor_cancel_r h2
/-- lists that differ in one byte have unlike sums -/
theorem crc_set (l : List UInt8) (i : Nat) (h : i < l.length) (y : UInt8) (hy : y ≠ l[i]) : crc l ≠ crc (l.set i y) := by
  intro he
  have e1 : l = l.take i ++ l[i] :: l.drop (i + 1) := by rw [← List.drop_eq_getElem_cons h, List.take_append_drop]
  have e2 : l.set i y = l.take i ++ y :: l.drop (i + 1) := by rw [List.set_eq_take_append_cons_drop, if_pos h]
  have hs : crcGo 4294967295 (l.take i) < 4294967296 := crcGo_lt _ _ (by decide)
  have g1 := crcGo_lt l 4294967295 (by decide)
  have g2 := crcGo_lt (l.set i y) 4294967295 (by decide)
  have he' : crcGo 4294967295 l = crcGo 4294967295 (l.set i y) := by unfold crc at he; omega
  have f1 : crcGo 4294967295 l = crcGo (crcByte (crcGo 4294967295 (l.take i)) l[i]) (l.drop (i + 1)) := by
    conv => lhs; rw [e1]
    unfold crcGo; rw [List.foldl_append]; rfl
  have f2 : crcGo 4294967295 (l.set i y) = crcGo (crcByte (crcGo 4294967295 (l.take i)) y) (l.drop (i + 1)) := by
    conv => lhs; rw [e2]
    unfold crcGo; rw [List.foldl_append]; rfl
  rw [f1, f2] at he'
  have h1 := crcGo_inj _ _ _ (crcByte_lt _ _ hs) (crcByte_lt _ _ hs) he'
  have h2 := crcBits_inj 8 _ _ (xor_lt32 _ _ hs) (xor_lt32 _ _ hs) h1
  exact hy (UInt8.toNat_inj.1 (xor_cancel_l h2)).symm
theorem crcGo_append (l m : List UInt8) (s : Nat) : crcGo s (l ++ m) = crcGo (crcGo s l) m := by
  unfold crcGo; rw [List.foldl_append]
end Go.Proofs.Ytkjdhkpnbgflhaa
