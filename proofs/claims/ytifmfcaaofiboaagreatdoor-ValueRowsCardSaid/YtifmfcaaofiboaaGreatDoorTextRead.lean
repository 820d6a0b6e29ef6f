/-
  A value's text is read as the value; so no two values have the same text.
-/
import Derived.Test.YtifmfcaaofiboaaGreatDoorVPrs
import Derived.Test.YtifmfcaaofiboaaGreatDoorTextB
namespace Go.Proofs.YtifmfcaaofiboaaGreatDoor
open Go.RowKit

theorem numGo_snoc (m : Int) (c : UInt8) : ∀ (l : List UInt8) (n : Int), numGo m (l ++ [c]) n = (numGo m l n).bind fun v => if 0 ≤ dig 10 c ∧ v ≤ (m - dig 10 c) / 10 then some (v * 10 + dig 10 c) else none
  | [], n => by simp [numGo]
  | a :: l, n => by
    simp only [List.cons_append, numGo]
    split
    · exact numGo_snoc m c l _
    · rfl
theorem dig_of (d : Nat) (h : d < 10) : dig 10 (UInt8.ofNat (48 + d)) = d := by
  have key : ∀ d : Fin 10, dig 10 (UInt8.ofNat (48 + d.1)) = (d.1 : Int) := by decide
  exact key ⟨d, h⟩
theorem ofNat_range (d : Nat) (h : d < 10) : (UInt8.ofNat (48 + d)).toNat = 48 + d := by
  rw [UInt8.toNat_ofNat']
  omega
theorem decDigits_go : ∀ (u : Nat) (m : Int), (u : Int) ≤ m → 9 ≤ m → numGo m (Lib.decDigits u) 0 = some (u : Int)
  | u, m, h, hm => by
    rw [Lib.decDigits]
    split
    · rename_i hu
      simp only [numGo]
      rw [dig_of u hu, if_pos ⟨by omega, by omega⟩]
      simp
    · rename_i hu
      rw [numGo_snoc, decDigits_go (u / 10) m (by omega) hm]
      simp only [Option.bind_some]
      rw [dig_of (u % 10) (by omega), if_pos ⟨by omega, by omega⟩]
      congr 1
      omega
termination_by u => u
decreasing_by omega
theorem decDigits_mem : ∀ (u : Nat) (c : UInt8), c ∈ Lib.decDigits u → 48 ≤ c.toNat ∧ c.toNat ≤ 57
  | u, c, h => by
    rw [Lib.decDigits] at h
    split at h
    · rename_i hu
      have := List.mem_singleton.1 h
      subst this
      rw [ofNat_range u hu]
      omega
    · rename_i hu
      rcases List.mem_append.1 h with h | h
      · exact decDigits_mem (u / 10) c h
      · have := List.mem_singleton.1 h
        subst this
        rw [ofNat_range _ (by omega)]
        omega
termination_by u => u
decreasing_by omega
theorem decDigits_head : ∀ (u : Nat), 1 ≤ u → ∃ c l, Lib.decDigits u = c :: l ∧ 49 ≤ c.toNat
  | u, h => by
    rw [Lib.decDigits]
    split
    · rename_i hu
      exact ⟨_, _, rfl, by rw [ofNat_range u hu]; omega⟩
    · obtain ⟨c, l, he, hc⟩ := decDigits_head (u / 10) (by omega)
      rw [he]
      exact ⟨c, l ++ _, rfl, hc⟩
termination_by u => u
decreasing_by omega
theorem decDigits_ne (u : Nat) : Lib.decDigits u ≠ [] := by
  rw [Lib.decDigits]
  split <;> simp
theorem numOf_digits (u : Nat) (m : Int) (h : (u : Int) ≤ m) (hm : 9 ≤ m) : numOf m (Lib.decDigits u) = some (u : Int) := by
  unfold numOf
  rw [if_neg, decDigits_go u m h hm]
  rintro (h | ⟨h1, h2⟩)
  · exact decDigits_ne u h
  · rcases Nat.eq_zero_or_pos u with rfl | hu
    · rw [show Lib.decDigits 0 = [48] by rw [Lib.decDigits]; rfl] at h1
      simp at h1
    · obtain ⟨c, l, he, hc⟩ := decDigits_head u hu
      rw [he] at h2
      simp at h2
      subst h2
      revert hc
      decide

theorem suf_no {l : List UInt8} (h : ∀ c ∈ l, c ≠ 117) : Lib.hasSuffix l [117] = false := by
  rw [Bool.eq_false_iff]
  intro hs
  unfold Lib.hasSuffix at hs
  obtain ⟨t, ht⟩ := List.isSuffixOf_iff_suffix.1 hs
  exact h 117 (by rw [← ht]; simp) rfl
theorem suf_yes (l p : List UInt8) : Lib.hasSuffix (l ++ p) p = true := by
  unfold Lib.hasSuffix
  exact List.isSuffixOf_iff_suffix.2 ⟨l, rfl⟩
theorem trim_yes (l p : List UInt8) : Lib.trimSuffix (l ++ p) p = l := by
  unfold Lib.trimSuffix
  rw [if_pos (suf_yes l p)]
  simp
theorem digit_ne {c : UInt8} (h : 48 ≤ c.toNat ∧ c.toNat ≤ 57) (n : UInt8) (hn : n.toNat < 48 ∨ 57 < n.toNat) : c ≠ n := by
  rintro rfl
  omega

theorem prsGo_hx : ∀ (l acc : List UInt8), prsGo (l.flatMap hx) acc = some (acc ++ l)
  | [], acc => by simp [prsGo]
  | c :: l, acc => by
    have key : ∀ n : Fin 256, 0 ≤ dig 16 (figs.getD ((UInt8.ofNat n.1).toNat / 16) 0) ∧ 0 ≤ dig 16 (figs.getD ((UInt8.ofNat n.1).toNat % 16) 0) ∧ byteOf (figs.getD ((UInt8.ofNat n.1).toNat / 16) 0) (figs.getD ((UInt8.ofNat n.1).toNat % 16) 0) = UInt8.ofNat n.1 := by decide +kernel
    have h := key ⟨c.toNat, c.toNat_lt⟩
    rw [UInt8.ofNat_toNat] at h
    rw [List.flatMap_cons]
    show prsGo (figs.getD (c.toNat / 16) 0 :: figs.getD (c.toNat % 16) 0 :: l.flatMap hx) acc = _
    simp only [prsGo]
    rw [if_pos ⟨h.1, h.2.1⟩, h.2.2, prsGo_hx l]
    simp
theorem hx_length (l : List UInt8) : (l.flatMap hx).length % 2 = 0 := by
  have := txtB_length l
  unfold txtB at this
  simp at this
  have h2 : (l.flatMap hx).length = 2 * l.length := by rw [List.length_flatMap]; omega
  omega

theorem read_digits (l : List UInt8) (c : UInt8) (r : List UInt8) (hl : l = c :: r) (hc : 48 ≤ c.toNat ∧ c.toNat ≤ 57) :
    l ≠ [110, 117, 108, 108] ∧ l ≠ [102, 97, 108, 115, 101] ∧ l ≠ [116, 114, 117, 101] ∧ Lib.hasPrefix l [120, 39] = false ∧ Lib.hasPrefix l [45] = false := by
  subst hl
  refine ⟨?_, ?_, ?_, ?_, ?_⟩
  · intro h; exact digit_ne hc 110 (by decide) (List.cons.inj h).1
  · intro h; exact digit_ne hc 102 (by decide) (List.cons.inj h).1
  · intro h; exact digit_ne hc 116 (by decide) (List.cons.inj h).1
  · have := digit_ne hc 120 (by decide)
    unfold Lib.hasPrefix
    simp [List.isPrefixOf]
    intro h
    exact absurd h.symm this
  · have := digit_ne hc 45 (by decide)
    unfold Lib.hasPrefix
    simp [List.isPrefixOf]
    intro h
    exact absurd h.symm this

theorem ba_ext {s t : ByteArray} (h : s.toList = t.toList) : s = t := by
  rw [ByteArray.toList_eq, ByteArray.toList_eq] at h
  obtain ⟨⟨l⟩⟩ := s
  obtain ⟨⟨m⟩⟩ := t
  simp at h
  subst h
  rfl
theorem chk_fields {k i u : Int} {s : ByteArray} (h : chk k i u s = 0) : i = onlyI k i ∧ u = onlyU k u ∧ s = onlyS k s ∧ (s.size : Int) ≤ 200 := by
  obtain ⟨h1, h2, _⟩ | ⟨_, _, h3⟩ | ⟨_, h3⟩ := chk_of h (chk_kind h)
  · unfold vEqB at h1
    simp only [Bool.and_eq_true, beq_iff_eq] at h1
    exact ⟨h1.2.1, h1.2.2.1, ba_ext h1.2.2.2, h2⟩
  · cases h3
  · cases h3

theorem text_read {k i u : Int} {s : ByteArray} (h : chk k i u s = 0) (hr : InR i u s) : readOf (textOf k i u s).data.toList = ⟨k, i, u, s, true⟩ := by
  obtain ⟨hi, hu, hs, hz⟩ := chk_fields h
  have hk := chk_kind h
  rcases kinds_cases k with hk' | rfl | rfl | rfl | rfl | rfl
  · exact absurd hk' hk
  · have e1 : i = 0 := hi
    have e2 : u = 0 := hu
    have e3 : s = ⟨#[]⟩ := hs
    subst e1 e2 e3
    rfl
  · have e2 : u = 0 := hu
    have e3 : s = ⟨#[]⟩ := hs
    subst e2 e3
    show readOf (Lib.itoa i) = _
    by_cases hn : i < 0
    · obtain ⟨v, rfl⟩ : ∃ v : Nat, i = -(v : Int) := ⟨i.natAbs, by omega⟩
      have hi0 := hr.i0
      rw [Lib.itoa_neg v (by omega)]
      unfold readOf
      rw [if_neg (by simp), if_neg (by simp), if_neg (by simp), if_neg (by simp [Lib.hasPrefix, List.isPrefixOf]), if_neg, if_pos (by simp [Lib.hasPrefix, List.isPrefixOf])]
      · rw [show Lib.trimPrefix (45 :: Lib.decDigits v) [45] = Lib.decDigits v by simp [Lib.trimPrefix, Lib.hasPrefix, List.isPrefixOf], numOf_digits v _ (by omega) (by omega)]
        simp
        omega
      · rw [suf_no]
        · simp
        · intro c hc
          rcases List.mem_cons.1 hc with rfl | hc
          · decide
          · exact digit_ne (decDigits_mem v c hc) 117 (by decide)
    · obtain ⟨v, rfl⟩ : ∃ v : Nat, i = (v : Int) := ⟨i.toNat, by omega⟩
      have hi1 := hr.i1
      rw [Lib.itoa_nonneg v]
      obtain ⟨c, l, hl⟩ : ∃ c l, Lib.decDigits v = c :: l := by
        cases hd : Lib.decDigits v with
        | nil => exact absurd hd (decDigits_ne v)
        | cons c l => exact ⟨c, l, rfl⟩
      obtain ⟨r1, r2, r3, r4, r5⟩ := read_digits _ c l hl (decDigits_mem v c (by rw [hl]; simp))
      unfold readOf
      rw [if_neg r1, if_neg r2, if_neg r3, if_neg (by simp [r4]), if_neg (by rw [suf_no (fun c hc => digit_ne (decDigits_mem v c hc) 117 (by decide))]; simp), if_neg (by simp [r5]), numOf_digits v _ (by omega) (by omega)]
  · have e1 : i = 0 := hi
    have e3 : s = ⟨#[]⟩ := hs
    subst e1 e3
    obtain ⟨v, rfl⟩ : ∃ v : Nat, u = (v : Int) := ⟨u.toNat, by have := hr.u0; omega⟩
    have hu1 := hr.u1
    have ht : (textOf 2 0 (v : Int) ⟨#[]⟩).data.toList = Lib.decDigits v ++ [117] := by
      unfold textOf
      rw [if_neg (by decide), if_neg (by decide), if_pos rfl]
      simp
    rw [ht]
    obtain ⟨c, l, hl⟩ : ∃ c l, Lib.decDigits v = c :: l := by
      cases hd : Lib.decDigits v with
      | nil => exact absurd hd (decDigits_ne v)
      | cons c l => exact ⟨c, l, rfl⟩
    obtain ⟨r1, r2, r3, r4, r5⟩ := read_digits (Lib.decDigits v ++ [117]) c (l ++ [117]) (by rw [hl]; rfl) (decDigits_mem v c (by rw [hl]; simp))
    unfold readOf
    rw [if_neg r1, if_neg r2, if_neg r3, if_neg (by simp [r4]), if_pos (suf_yes _ _), trim_yes, numOf_digits v _ (by omega) (by omega)]
  · have e2 : u = 0 := hu
    have e3 : s = ⟨#[]⟩ := hs
    subst e2 e3
    rcases chk_bool h with rfl | rfl
    · rfl
    · rfl
  · have e1 : i = 0 := hi
    have e2 : u = 0 := hu
    subst e1 e2
    have ht : (textOf 4 0 0 s).data.toList = 120 :: 39 :: (s.data.toList.flatMap hx ++ [39]) := by
      unfold textOf
      rw [if_neg (by decide), if_neg (by decide), if_neg (by decide), if_neg (by decide)]
      unfold txtBytes txtB
      simp
    rw [ht]
    have hp : Lib.hasPrefix (120 :: 39 :: (s.data.toList.flatMap hx ++ [39])) [120, 39] = true := by simp [Lib.hasPrefix, List.isPrefixOf]
    have htp : Lib.trimPrefix (120 :: 39 :: (s.data.toList.flatMap hx ++ [39])) [120, 39] = s.data.toList.flatMap hx ++ [39] := by
      unfold Lib.trimPrefix
      rw [if_pos hp]
      rfl
    have hin : innerOf (120 :: 39 :: (s.data.toList.flatMap hx ++ [39])) = s.data.toList.flatMap hx := by
      unfold innerOf
      rw [htp, trim_yes]
    unfold readOf bytesOk closedOf
    rw [if_neg (by simp), if_neg (by simp), if_neg (by simp), if_pos hp, hin, htp, prsGo_hx, suf_yes, hx_length]
    simp
end Go.Proofs.YtifmfcaaofiboaaGreatDoor
