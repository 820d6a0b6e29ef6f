/-
  Numbers' digits: what a text is read as, by strconv's functions and told again, and by definition: the same. No program.
-/
import Derived.Test.YtmgeefhacnadcaaGreatDoorBase
import Derived.Lib.ItoaNum
import Derived.Lib.ItoaLen
import Derived.Lib.ParseIntBTie
import Derived.Lib.ParseIntBCases
import Derived.Lib.IndexLaws
import Derived.Lib.Index
namespace Go.Proofs.YtmgeefhacnadcaaGreatDoor
open Go.RowKit

/-- figures, as bytes -/
def figs : List UInt8 := [48, 49, 50, 51, 52, 53, 54, 55, 56, 57, 97, 98, 99, 100, 101, 102]
/-- the place of a byte among the first figures; -1: none -/
def dig (base : Nat) (c : UInt8) : Int := Lib.indexByte (figs.take base) c
theorem indexByte_bd (l : List UInt8) (c : UInt8) : -1 ≤ Lib.indexByte l c ∧ Lib.indexByte l c < l.length := by
  refine ⟨Lib.indexByte_ge l c, ?_⟩
  induction l with
  | nil => simp [Lib.indexByte]
  | cons b l ih =>
    simp only [Lib.indexByte, List.length_cons]
    split
    · omega
    · split <;> omega
theorem dig10_bd (c : UInt8) : -1 ≤ dig 10 c ∧ dig 10 c < 10 := indexByte_bd (figs.take 10) c
/-- digits from the left, up to m -/
def numGo (m : Int) : List UInt8 → Int → Option Int
  | [], n => some n
  | c :: l, n => if 0 ≤ dig 10 c ∧ n ≤ (m - dig 10 c) / 10 then numGo m l (n * 10 + dig 10 c) else none
def numOf (m : Int) (l : List UInt8) : Option Int := if l = [] ∨ (1 < l.length ∧ l.head? = some 48) then none else numGo m l 0
/-- k digits are read: they make v -/
def NumRel (m : Int) (l : List UInt8) (k : Nat) (v : Int) : Prop := numGo m l 0 = numGo m (l.drop k) v
theorem NumRel.yes {m : Int} {s : ByteArray} {k : Nat} {v d : Int} (h : NumRel m s.data.toList k v) (hk : k < s.size) (hd : dig 10 s[k] = d) (h0 : 0 ≤ d) (h1 : v ≤ (m - d) / 10) : NumRel m s.data.toList (k + 1) (v * 10 + d) := by
  unfold NumRel at *
  rw [h, List.drop_eq_getElem_cons (by simpa using hk)]
  rw [show s.data.toList[k]'(by simpa using hk) = s[k] from rfl]
  simp only [numGo]
  rw [hd, if_pos ⟨h0, h1⟩]
theorem NumRel.no {m : Int} {s : ByteArray} {k : Nat} {v : Int} (h : NumRel m s.data.toList k v) (hk : k < s.size) (h0 : ¬ (0 ≤ dig 10 s[k] ∧ v ≤ (m - dig 10 s[k]) / 10)) : numGo m s.data.toList 0 = none := by
  unfold NumRel at h
  rw [h, List.drop_eq_getElem_cons (by simpa using hk)]
  rw [show s.data.toList[k]'(by simpa using hk) = s[k] from rfl]
  simp only [numGo]
  rw [if_neg h0]
theorem NumRel.all {m : Int} {s : ByteArray} {v : Int} (h : NumRel m s.data.toList s.size v) : numGo m s.data.toList 0 = some v := by
  unfold NumRel at h
  rw [h, List.drop_of_length_le (by simp)]
  rfl
/-- a result as value.number gives it -/
def numRes : Option Int → Value
  | some n => .tuple #[.int .u64 n, .bool true]
  | none => .tuple #[.int .u64 0, .bool false]
theorem head_48 (s : ByteArray) (h : 0 < s.size) : (s.data.toList.head? = some 48) ↔ ((s[0].toNat : Int) == 48) = true := by
  obtain ⟨⟨l⟩⟩ := s
  cases l with
  | nil => simp [ByteArray.size] at h
  | cons c l =>
    show some c = some 48 ↔ ((c.toNat : Int) == 48) = true
    rw [Option.some.injEq, beq_iff_eq]
    constructor
    · rintro rfl; rfl
    · intro hc
      apply UInt8.toNat_inj.1
      show c.toNat = 48
      omega
theorem numGo_bd {m : Int} : ∀ (l : List UInt8) (v n : Int), 0 ≤ v → v ≤ m → numGo m l v = some n → 0 ≤ n ∧ n ≤ m
  | [], v, n, h0, h1, h => by simp [numGo] at h; omega
  | c :: l, v, n, h0, h1, h => by
    simp only [numGo] at h
    split at h
    · rename_i hc
      have := dig10_bd c
      exact numGo_bd l _ n (by omega) (by omega) h
    · cases h
theorem numOf_bd {m : Int} {l : List UInt8} {n : Int} (hm : 0 ≤ m) (h : numOf m l = some n) : 0 ≤ n ∧ n ≤ m := by
  unfold numOf at h
  split at h
  · cases h
  · exact numGo_bd l 0 n (by omega) hm h
theorem ba_nil (s : ByteArray) (h : s.toList = []) : s = ⟨#[]⟩ := by
  rw [ByteArray.toList_eq] at h
  obtain ⟨⟨l⟩⟩ := s
  simp at h
  subst h
  rfl
theorem dig10_of (c : UInt8) : dig 10 c = if 48 ≤ c.toNat ∧ c.toNat ≤ 57 then (c.toNat : Int) - 48 else -1 := by
  have key : ∀ n : Fin 256, dig 10 (UInt8.ofNat n.1) = if 48 ≤ (UInt8.ofNat n.1).toNat ∧ (UInt8.ofNat n.1).toNat ≤ 57 then ((UInt8.ofNat n.1).toNat : Int) - 48 else -1 := by decide +kernel
  have h := key ⟨c.toNat, c.toNat_lt⟩
  rwa [UInt8.ofNat_toNat] at h
theorem numGo_ge {m : Int} : ∀ (l : List UInt8) (v n : Int), 0 ≤ v → numGo m l v = some n → v * 10 ^ l.length ≤ n
  | [], v, n, _, h => by simp [numGo] at h; simp [h]
  | c :: l, v, n, h0, h => by
    simp only [numGo] at h
    split at h
    · rename_i hc
      have ih := numGo_ge l _ n (by omega) h
      rw [List.length_cons, Int.pow_succ]
      have hp : (0 : Int) ≤ 10 ^ l.length := Int.pow_nonneg (by decide)
      have h2 : (v * 10 + dig 10 c) * 10 ^ l.length = v * (10 ^ l.length * 10) + dig 10 c * 10 ^ l.length := by
        rw [Int.add_mul, Int.mul_assoc, Int.mul_comm 10]
      have h3 : 0 ≤ dig 10 c * 10 ^ l.length := Int.mul_nonneg hc.1 hp
      omega
    · cases h
/-- k digits are read: they make v (as the reference writes it) -/
theorem NumRel.yes' {m : Int} {s : ByteArray} {k : Nat} {v : Int} {c : UInt8} (h : NumRel m s.data.toList k v) (hk : k < s.size) (hc : s[k] = c) (h0 : 48 ≤ (c.toNat : Int)) (h1 : (c.toNat : Int) ≤ 57) (h2 : v ≤ (m - ((c.toNat : Int) - 48)) / 10) : NumRel m s.data.toList (k + 1) (10 * v + ((c.toNat : Int) - 48)) := by
  have hd : dig 10 s[k] = (c.toNat : Int) - 48 := by rw [hc, dig10_of, if_pos ⟨by omega, by omega⟩]
  have := h.yes hk hd (by omega) h2
  rwa [Int.mul_comm v 10] at this
theorem NumRel.no' {m : Int} {s : ByteArray} {k : Nat} {v : Int} {c : UInt8} (h : NumRel m s.data.toList k v) (hk : k < s.size) (hc : s[k] = c) (h0 : ¬ (48 ≤ (c.toNat : Int) ∧ (c.toNat : Int) ≤ 57 ∧ v ≤ (m - ((c.toNat : Int) - 48)) / 10)) : numGo m s.data.toList 0 = none := by
  refine h.no hk ?_
  rw [hc, dig10_of]
  split
  · rename_i hh
    rintro ⟨_, h2⟩
    exact h0 ⟨by omega, by omega, h2⟩
  · rintro ⟨h1, _⟩
    omega
theorem numGo_snoc (m : Int) (c : UInt8) : ∀ (l : List UInt8) (n : Int), numGo m (l ++ [c]) n = (numGo m l n).bind fun v => if 0 ≤ dig 10 c ∧ v ≤ (m - dig 10 c) / 10 then some (v * 10 + dig 10 c) else none
  | [], n => by simp [numGo]
  | a :: l, n => by
    simp only [List.cons_append, numGo]
    split
    · exact numGo_snoc m c l _
    · rfl
theorem dig_of (d : Nat) (h : d < 10) : dig 10 (UInt8.ofNat (48 + d)) = d := by
  have key : ∀ d : Fin 10, dig 10 (UInt8.ofNat (48 + d.1)) = (d.1 : Int) := by decide
  exact key ⟨d, h⟩
theorem ofNat_range (d : Nat) (h : d < 10) : (UInt8.ofNat (48 + d)).toNat = 48 + d := by
  rw [UInt8.toNat_ofNat']
  omega
theorem decDigits_go : ∀ (u : Nat) (m : Int), (u : Int) ≤ m → 9 ≤ m → numGo m (Lib.decDigits u) 0 = some (u : Int)
  | u, m, h, hm => by
    rw [Lib.decDigits]
    split
    · rename_i hu
      simp only [numGo]
      rw [dig_of u hu, if_pos ⟨by omega, by omega⟩]
      simp
    · rename_i hu
      rw [numGo_snoc, decDigits_go (u / 10) m (by omega) hm]
      simp only [Option.bind_some]
      rw [dig_of (u % 10) (by omega), if_pos ⟨by omega, by omega⟩]
      congr 1
      omega
termination_by u => u
decreasing_by omega
theorem decDigits_mem : ∀ (u : Nat) (c : UInt8), c ∈ Lib.decDigits u → 48 ≤ c.toNat ∧ c.toNat ≤ 57
  | u, c, h => by
    rw [Lib.decDigits] at h
    split at h
    · rename_i hu
      have := List.mem_singleton.1 h
      subst this
      rw [ofNat_range u hu]
      omega
    · rename_i hu
      rcases List.mem_append.1 h with h | h
      · exact decDigits_mem (u / 10) c h
      · have := List.mem_singleton.1 h
        subst this
        rw [ofNat_range _ (by omega)]
        omega
termination_by u => u
decreasing_by omega
theorem decDigits_head : ∀ (u : Nat), 1 ≤ u → ∃ c l, Lib.decDigits u = c :: l ∧ 49 ≤ c.toNat
  | u, h => by
    rw [Lib.decDigits]
    split
    · rename_i hu
      exact ⟨_, _, rfl, by rw [ofNat_range u hu]; omega⟩
    · obtain ⟨c, l, he, hc⟩ := decDigits_head (u / 10) (by omega)
      rw [he]
      exact ⟨c, l ++ _, rfl, hc⟩
termination_by u => u
decreasing_by omega
theorem decDigits_ne (u : Nat) : Lib.decDigits u ≠ [] := by
  rw [Lib.decDigits]
  split <;> simp
theorem numOf_digits (u : Nat) (m : Int) (h : (u : Int) ≤ m) (hm : 9 ≤ m) : numOf m (Lib.decDigits u) = some (u : Int) := by
  unfold numOf
  rw [if_neg, decDigits_go u m h hm]
  rintro (h | ⟨h1, h2⟩)
  · exact decDigits_ne u h
  · rcases Nat.eq_zero_or_pos u with rfl | hu
    · rw [show Lib.decDigits 0 = [48] by rw [Lib.decDigits]; rfl] at h1
      simp at h1
    · obtain ⟨c, l, he, hc⟩ := decDigits_head u hu
      rw [he] at h2
      simp at h2
      subst h2
      revert hc
      decide
theorem numGo_le {m : Int} : ∀ (l : List UInt8) (v n : Int), v ≤ m → numGo m l v = some n → n ≤ m
  | [], v, n, hv, h => by simp [numGo] at h; omega
  | c :: l, v, n, hv, h => by
    simp only [numGo] at h
    split at h
    · exact numGo_le l _ n (by omega) h
    · cases h
theorem numGo_up {m : Int} (l : List UInt8) (v n : Int) (h0 : 0 ≤ v) (h : numGo m l v = some n) : v ≤ n := by
  have h1 := numGo_ge l v n h0 h
  have hp : (1 : Int) ≤ 10 ^ l.length := by
    have : (0 : Int) < 10 ^ l.length := Int.pow_pos (by decide)
    omega
  have h2 : v * 1 ≤ v * 10 ^ l.length := Int.mul_le_mul_of_nonneg_left hp h0
  omega
theorem numOf_in {m : Int} (h0 : 0 ≤ m) {l : List UInt8} {n : Int} (h : numOf m l = some n) : 0 ≤ n ∧ n ≤ m := by
  unfold numOf at h
  split at h
  · cases h
  · exact ⟨numGo_up l 0 n (by omega) h, numGo_le l 0 n h0 h⟩
theorem dec_small (c : UInt8) (h : 0 ≤ dig 10 c) : UInt8.ofNat (48 + (dig 10 c).toNat) = c ∧ (dig 10 c).toNat < 10 := by
  rw [dig10_of] at h ⊢
  split at h
  · rename_i hc
    rw [if_pos hc]
    have e : ((c.toNat : Int) - 48).toNat = c.toNat - 48 := by omega
    rw [e]
    refine ⟨?_, by omega⟩
    apply UInt8.toNat_inj.1
    rw [UInt8.toNat_ofNat']
    have := c.toNat_lt
    omega
  · omega
theorem numGo_dec {m : Int} : ∀ (k : Nat) (l : List UInt8) (n : Int), l.length = k + 1 → (k = 0 ∨ l.head? ≠ some 48) → numGo m l 0 = some n → Lib.decDigits n.toNat = l
  | 0, l, n, hl, _, h => by
    match l, hl with
    | [c], _ =>
      simp only [numGo] at h
      split at h
      · rename_i hc
        simp only [Int.zero_mul, Int.zero_add, Option.some.injEq] at h
        subst h
        obtain ⟨h1, h2⟩ := dec_small c hc.1
        rw [Lib.decDigits, dif_pos h2, h1]
      · cases h
  | k + 1, l, n, hl, hh, h => by
    have hne : l ≠ [] := by intro e; rw [e] at hl; cases hl
    obtain ⟨l', c, rfl⟩ : ∃ l' c, l = l' ++ [c] := ⟨l.dropLast, l.getLast hne, (List.dropLast_concat_getLast hne).symm⟩
    have hl' : l'.length = k + 1 := by simp at hl; omega
    have hhead : l'.head? ≠ some 48 := by
      rcases hh with hh | hh
      · omega
      · intro e
        apply hh
        cases l' with
        | nil => simp at hl'
        | cons a r => simpa using e
    rw [numGo_snoc] at h
    cases hv : numGo m l' 0 with
    | none => rw [hv] at h; cases h
    | some v =>
      rw [hv] at h
      simp only [Option.bind_some] at h
      split at h
      · rename_i hc
        simp only [Option.some.injEq] at h
        subst h
        have ih := numGo_dec k l' v hl' (.inr hhead) hv
        have hv0 := numGo_up l' 0 v (by omega) hv
        have hv1 : v ≠ 0 := by
          rintro rfl
          rw [show Lib.decDigits (0 : Int).toNat = [48] by rw [Lib.decDigits]; rfl] at ih
          rw [← ih] at hhead
          exact hhead rfl
        obtain ⟨h1, h2⟩ := dec_small c hc.1
        have e : (v * 10 + dig 10 c).toNat = v.toNat * 10 + (dig 10 c).toNat := by omega
        rw [e, Lib.decDigits, dif_neg (by omega), show (v.toNat * 10 + (dig 10 c).toNat) / 10 = v.toNat by omega, show (v.toNat * 10 + (dig 10 c).toNat) % 10 = (dig 10 c).toNat by omega, ih, h1]
      · cases h
theorem numOf_dec {m : Int} {l : List UInt8} {n : Int} (h : numOf m l = some n) : Lib.decDigits n.toNat = l := by
  unfold numOf at h
  split at h
  · cases h
  · rename_i hc
    have hne : l ≠ [] := fun e => hc (.inl e)
    obtain ⟨k, hk⟩ : ∃ k, l.length = k + 1 := by
      cases l with
      | nil => exact absurd rfl hne
      | cons a r => exact ⟨r.length, rfl⟩
    refine numGo_dec k l n hk ?_ h
    by_cases h1 : k = 0
    · exact .inl h1
    · exact .inr fun e => hc (.inr ⟨by omega, e⟩)

def M64 : Int := 18446744073709551615
/-- what strconv reads, if it is told again as the text -/
def readU (l : List UInt8) : Option Int := match Lib.parseUintB 64 l with
  | .ok u => if Lib.decDigits u = l then some (u : Int) else none
  | _ => none
def readI (l : List UInt8) : Option Int := match Lib.parseIntB 64 l with
  | .ok v => if Lib.itoa v = l then some v else none
  | _ => none
/-- by definition: digits alone; perhaps with - ahead -/
def sgnOf (l : List UInt8) : Option Int :=
  if l.head? = some 45 then (match numOf M64 l.tail with
    | some n => if n = 0 ∨ 9223372036854775808 < n then none else some (-n)
    | none => none)
  else (match numOf M64 l with
    | some n => if n ≤ 9223372036854775807 then some n else none
    | none => none)

theorem dig10_hit {c : UInt8} (h : 0 ≤ dig 10 c) : 48 ≤ c.toNat ∧ c.toNat ≤ 57 ∧ dig 10 c = (c.toNat : Int) - 48 := by
  have e := dig10_of c
  split at e
  · rename_i hc
    exact ⟨hc.1, hc.2, e⟩
  · omega
theorem parse_go : ∀ (l : List UInt8) (v n : Int), 0 ≤ v → numGo M64 l v = some n → Lib.parseUintM 18446744073709551615 v.toNat l = .ok n.toNat
  | [], v, n, h0, h => by
    simp only [numGo, Option.some.injEq] at h
    subst h
    rfl
  | c :: l, v, n, h0, h => by
    simp only [numGo] at h
    split at h
    · rename_i hc
      obtain ⟨h1, h2, h3⟩ := dig10_hit hc.1
      have hM : M64 = 18446744073709551615 := rfl
      rw [hM] at hc
      have ih := parse_go l (v * 10 + dig 10 c) n (by omega) h
      have e : (v * 10 + dig 10 c).toNat = v.toNat * 10 + (c.toNat - 48) := by omega
      rw [e] at ih
      unfold Lib.parseUintM
      rw [if_pos ⟨h1, h2⟩, if_neg (by omega), if_neg (by omega)]
      exact ih
    · cases h
theorem parse_of {l : List UInt8} {n : Int} (h : numOf M64 l = some n) : Lib.parseUintB 64 l = .ok n.toNat := by
  unfold numOf at h
  split at h
  · cases h
  · rename_i hc
    unfold Lib.parseUintB
    rw [if_neg (fun e => hc (.inl e))]
    exact parse_go l 0 n (by omega) h
theorem readU_eq (l : List UInt8) : readU l = numOf M64 l := by
  cases h : numOf M64 l with
  | some n =>
    have hb := numOf_in (by decide) h
    unfold readU
    rw [parse_of h]
    simp only
    rw [if_pos (numOf_dec h)]
    congr 1
    omega
  | none =>
    unfold readU
    split
    · rename_i u hu
      split
      · rename_i hd
        have hle := Lib.parseUintB_le hu
        have := numOf_digits u M64 (by show (u : Int) ≤ 18446744073709551615; omega) (by decide)
        rw [hd, h] at this
        cases this
      · rfl
    · rfl
theorem digits_head {u : Nat} {c : UInt8} {r : List UInt8} (h : Lib.decDigits u = c :: r) : 48 ≤ c.toNat ∧ c.toNat ≤ 57 := decDigits_mem u c (by rw [h]; exact List.mem_cons_self ..)
theorem readI_eq (l : List UInt8) : readI l = sgnOf l := by
  match l with
  | [] => rfl
  | c :: r =>
    by_cases h45 : c = 45
    · subst h45
      have hs : sgnOf (45 :: r) = match numOf M64 r with
        | some n => if n = 0 ∨ 9223372036854775808 < n then none else some (-n)
        | none => none := rfl
      rw [hs]
      unfold readI
      rw [Lib.parseIntB_minus]
      cases hn : numOf M64 r with
      | some n =>
        have hb := numOf_in (by decide) hn
        have hd := numOf_dec hn
        rw [parse_of hn]
        simp only [Lib.signedC]
        by_cases hz : n = 0 ∨ 9223372036854775808 < n
        · rw [if_pos hz]
          rcases hz with rfl | hz
          · simp [Lib.itoa] at hd ⊢
            intro e
            have := digits_head (u := 0) (c := 45) (r := r) (by simpa using e)
            revert this
            decide
          · rw [if_pos (by omega)]
        · rw [if_neg hz, if_neg (by omega)]
          simp only
          have e : Lib.itoa (-(n.toNat : Int)) = 45 :: r := by
            unfold Lib.itoa
            rw [if_pos (by omega), show (-(n.toNat : Int)).natAbs = n.toNat by omega, hd]
          rw [if_pos e]
          congr 1
          omega
      | none =>
        cases hp : Lib.parseUintB 64 r
        case range => rfl
        case ok u =>
          simp only [Lib.signedC]
          split
          · rename_i v hv
            split
            · rename_i hi
              exfalso
              have hle := Lib.parseUintB_le hp
              split at hv
              · cases hv
              · injection hv with hv
                subst hv
                unfold Lib.itoa at hi
                split at hi
                · rename_i hneg
                  have e2 : Lib.decDigits (-(u : Int)).natAbs = r := by injection hi
                  rw [show (-(u : Int)).natAbs = u by omega] at e2
                  have := numOf_digits u M64 (by show (u : Int) ≤ 18446744073709551615; omega) (by decide)
                  rw [e2, hn] at this
                  cases this
                · have := digits_head hi
                  revert this
                  decide
            · rfl
          · rfl
        rfl
    · have h45' : c.toNat ≠ 45 := fun e => h45 (UInt8.toNat_inj.1 e)
      have hs : sgnOf (c :: r) = match numOf M64 (c :: r) with
        | some n => if n ≤ 9223372036854775807 then some n else none
        | none => none := by
        unfold sgnOf
        rw [if_neg (by simp [h45])]
      rw [hs]
      unfold readI
      cases hn : numOf M64 (c :: r) with
      | some n =>
        have hb := numOf_in (by decide) hn
        have hd := numOf_dec hn
        have hc := digits_head hd
        rw [Lib.parseIntB_plain 64 c r (by omega) h45', parse_of hn]
        simp only [Lib.signlessC]
        by_cases hz : n ≤ 9223372036854775807
        · rw [if_pos hz, if_neg (by omega)]
          simp only
          have e : Lib.itoa (n.toNat : Int) = c :: r := by
            unfold Lib.itoa
            rw [if_neg (by omega), show (n.toNat : Int).toNat = n.toNat by omega, hd]
          rw [if_pos e]
          congr 1
          omega
        · rw [if_neg hz, if_pos (by omega)]
      | none =>
        split
        · rename_i v hv
          split
          · rename_i hi
            exfalso
            have hbd := Lib.parseIntB_bounds hv
            unfold Lib.itoa at hi
            split at hi
            · injection hi with h1 _
              exact h45 h1.symm
            · rename_i hneg
              have := numOf_digits v.toNat M64 (by show (v.toNat : Int) ≤ 18446744073709551615; omega) (by decide)
              rw [hi, hn] at this
              cases this
          · rfl
        · rfl
theorem sgn_in {l : List UInt8} {n : Int} (h : sgnOf l = some n) : -9223372036854775808 ≤ n ∧ n ≤ 9223372036854775807 := by
  unfold sgnOf at h
  split at h
  · split at h
    · rename_i m hm
      have hb := numOf_in (by decide) hm
      split at h
      · cases h
      · rename_i hz
        injection h with h
        omega
    · cases h
  · split at h
    · rename_i m hm
      have hb := numOf_in (by decide) hm
      split at h
      · injection h with h
        omega
      · cases h
    · cases h
end Go.Proofs.YtmgeefhacnadcaaGreatDoor
