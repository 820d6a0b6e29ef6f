/-
  What a text is read as, is told as the text; numbers under two bounds.
-/
import Derived.Test.YtifmfcaaofiboaaGreatDoorTextRead
import Derived.Test.YtifmfcaaofiboaaGreatDoorRUns
namespace Go.Proofs.YtifmfcaaofiboaaGreatDoor
open Go.RowKit

theorem numGo_le {m : Int} : ∀ (l : List UInt8) (v n : Int), v ≤ m → numGo m l v = some n → n ≤ m
  | [], v, n, hv, h => by simp [numGo] at h; omega
  | c :: l, v, n, hv, h => by
    simp only [numGo] at h
    split at h
    · exact numGo_le l _ n (by omega) h
    · cases h
theorem numGo_up {m : Int} (l : List UInt8) (v n : Int) (h0 : 0 ≤ v) (h : numGo m l v = some n) : v ≤ n := by
  have h1 := numGo_ge l v n h0 h
  have hp : (1 : Int) ≤ 10 ^ l.length := by
    have : (0 : Int) < 10 ^ l.length := Int.pow_pos (by decide)
    omega
  have h2 : v * 1 ≤ v * 10 ^ l.length := Int.mul_le_mul_of_nonneg_left hp h0
  omega
/-- what is read under a smaller bound -/
def capAt (m : Int) : Option Int → Option Int
  | some n => if n ≤ m then some n else none
  | none => none
theorem numGo_cap {m M : Int} (hm : m ≤ M) : ∀ (l : List UInt8) (v : Int), 0 ≤ v → v ≤ m → numGo m l v = capAt m (numGo M l v)
  | [], v, _, hv => by simp [numGo, capAt, hv]
  | c :: l, v, h0, hv => by
    simp only [numGo]
    by_cases h1 : 0 ≤ dig 10 c ∧ v ≤ (m - dig 10 c) / 10
    · rw [if_pos h1, if_pos ⟨h1.1, by omega⟩]
      exact numGo_cap hm l _ (by omega) (by omega)
    · rw [if_neg h1]
      by_cases h2 : 0 ≤ dig 10 c ∧ v ≤ (M - dig 10 c) / 10
      · rw [if_pos h2]
        cases hg : numGo M l (v * 10 + dig 10 c) with
        | none => rfl
        | some n =>
          have := numGo_up l _ n (by omega) hg
          show none = if n ≤ m then some n else none
          rw [if_neg]
          intro hn
          exact h1 ⟨h2.1, by omega⟩
      · rw [if_neg h2]; rfl
theorem numOf_cap {m M : Int} (h0 : 0 ≤ m) (hm : m ≤ M) (l : List UInt8) : numOf m l = capAt m (numOf M l) := by
  unfold numOf
  split
  · rfl
  · exact numGo_cap hm l 0 (by omega) h0
theorem numOf_in {m : Int} (h0 : 0 ≤ m) {l : List UInt8} {n : Int} (h : numOf m l = some n) : 0 ≤ n ∧ n ≤ m := by
  unfold numOf at h
  split at h
  · cases h
  · exact ⟨numGo_up l 0 n (by omega) h, numGo_le l 0 n h0 h⟩
theorem dec_small (c : UInt8) (h : 0 ≤ dig 10 c) : UInt8.ofNat (48 + (dig 10 c).toNat) = c ∧ (dig 10 c).toNat < 10 := by
  rw [dig10_of] at h ⊢
  split at h
  · rename_i hc
    rw [if_pos hc]
    have e : ((c.toNat : Int) - 48).toNat = c.toNat - 48 := by omega
    rw [e]
    refine ⟨?_, by omega⟩
    apply UInt8.toNat_inj.1
    rw [UInt8.toNat_ofNat']
    have := c.toNat_lt
    omega
  · omega
theorem numGo_dec {m : Int} : ∀ (k : Nat) (l : List UInt8) (n : Int), l.length = k + 1 → (k = 0 ∨ l.head? ≠ some 48) → numGo m l 0 = some n → Lib.decDigits n.toNat = l
  | 0, l, n, hl, _, h => by
    match l, hl with
    | [c], _ =>
      simp only [numGo] at h
      split at h
      · rename_i hc
        simp only [Int.zero_mul, Int.zero_add, Option.some.injEq] at h
        subst h
        obtain ⟨h1, h2⟩ := dec_small c hc.1
        rw [Lib.decDigits, dif_pos h2, h1]
      · cases h
  | k + 1, l, n, hl, hh, h => by
    have hne : l ≠ [] := by intro e; rw [e] at hl; cases hl
    obtain ⟨l', c, rfl⟩ : ∃ l' c, l = l' ++ [c] := ⟨l.dropLast, l.getLast hne, (List.dropLast_concat_getLast hne).symm⟩
    have hl' : l'.length = k + 1 := by simp at hl; omega
    have hhead : l'.head? ≠ some 48 := by
      rcases hh with hh | hh
      · omega
      · intro e
        apply hh
        cases l' with
        | nil => simp at hl'
        | cons a r => simpa using e
    rw [numGo_snoc] at h
    cases hv : numGo m l' 0 with
    | none => rw [hv] at h; cases h
    | some v =>
      rw [hv] at h
      simp only [Option.bind_some] at h
      split at h
      · rename_i hc
        simp only [Option.some.injEq] at h
        subst h
        have ih := numGo_dec k l' v hl' (.inr hhead) hv
        have hv0 := numGo_up l' 0 v (by omega) hv
        have hv1 : v ≠ 0 := by
          rintro rfl
          rw [show Lib.decDigits (0 : Int).toNat = [48] by rw [Lib.decDigits]; rfl] at ih
          rw [← ih] at hhead
          exact hhead rfl
        obtain ⟨h1, h2⟩ := dec_small c hc.1
        have e : (v * 10 + dig 10 c).toNat = v.toNat * 10 + (dig 10 c).toNat := by omega
        rw [e, Lib.decDigits, dif_neg (by omega), show (v.toNat * 10 + (dig 10 c).toNat) / 10 = v.toNat by omega, show (v.toNat * 10 + (dig 10 c).toNat) % 10 = (dig 10 c).toNat by omega, ih, h1]
      · cases h
theorem numOf_dec {m : Int} {l : List UInt8} {n : Int} (h : numOf m l = some n) : Lib.decDigits n.toNat = l := by
  unfold numOf at h
  split at h
  · cases h
  · rename_i hc
    have hne : l ≠ [] := fun e => hc (.inl e)
    obtain ⟨k, hk⟩ : ∃ k, l.length = k + 1 := by
      cases l with
      | nil => exact absurd rfl hne
      | cons a r => exact ⟨r.length, rfl⟩
    refine numGo_dec k l n hk ?_ h
    by_cases h1 : k = 0
    · exact .inl h1
    · exact .inr fun e => hc (.inr ⟨by omega, e⟩)

theorem dig16_fig (c : UInt8) (h : 0 ≤ dig 16 c) : figs.getD (dig 16 c).toNat 0 = c := by
  have key : ∀ n : Fin 256, 0 ≤ dig 16 (UInt8.ofNat n.1) → figs.getD (dig 16 (UInt8.ofNat n.1)).toNat 0 = UInt8.ofNat n.1 := by decide +kernel
  have hk := key ⟨c.toNat, c.toNat_lt⟩
  rw [UInt8.ofNat_toNat] at hk
  exact hk h
theorem hx_byte (a b : UInt8) (ha : 0 ≤ dig 16 a) (hb : 0 ≤ dig 16 b) : hx (byteOf a b) = [a, b] := by
  have h1 := dig16_bd a
  have h2 := dig16_bd b
  have e : (byteOf a b).toNat = (dig 16 a).toNat * 16 + (dig 16 b).toNat := by
    unfold byteOf
    rw [UInt8.toNat_ofNat']
    omega
  unfold hx
  rw [e, show ((dig 16 a).toNat * 16 + (dig 16 b).toNat) / 16 = (dig 16 a).toNat by omega, show ((dig 16 a).toNat * 16 + (dig 16 b).toNat) % 16 = (dig 16 b).toNat by omega, dig16_fig a ha, dig16_fig b hb]
theorem prsGo_inv : ∀ (l acc r : List UInt8), l.length % 2 = 0 → prsGo l acc = some r → ∃ bs, r = acc ++ bs ∧ bs.flatMap hx = l
  | [], acc, r, _, h => ⟨[], by simp [prsGo] at h; simp [h], rfl⟩
  | [_], _, _, hl, _ => by simp at hl
  | a :: b :: l, acc, r, hl, h => by
    simp only [prsGo] at h
    split at h
    · rename_i hc
      obtain ⟨bs, hr, hb⟩ := prsGo_inv l _ r (by simp at hl; omega) h
      refine ⟨byteOf a b :: bs, by simp [hr], ?_⟩
      rw [List.flatMap_cons, hx_byte a b hc.1 hc.2, hb]
      rfl
    · cases h

theorem pre_split {l p : List UInt8} (h : Lib.hasPrefix l p = true) : l = p ++ Lib.trimPrefix l p := by
  unfold Lib.trimPrefix
  rw [if_pos h]
  unfold Lib.hasPrefix at h
  obtain ⟨t, rfl⟩ := List.isPrefixOf_iff_prefix.1 h
  simp
theorem suf_split {l p : List UInt8} (h : Lib.hasSuffix l p = true) : l = Lib.trimSuffix l p ++ p := by
  unfold Lib.trimSuffix
  rw [if_pos h]
  unfold Lib.hasSuffix at h
  obtain ⟨t, rfl⟩ := List.isSuffixOf_iff_suffix.1 h
  simp
theorem read_text {l : List UInt8} (h : (readOf l).ok = true) : (textOf (readOf l).k (readOf l).i (readOf l).u (readOf l).v).data.toList = l := by
  unfold readOf at h ⊢
  split
  · rename_i e; rw [e]; rfl
  · rename_i n1
    rw [if_neg n1] at h
    split
    · rename_i e; rw [e]; rfl
    · rename_i n2
      rw [if_neg n2] at h
      split
      · rename_i e; rw [e]; rfl
      · rename_i n3
        rw [if_neg n3] at h
        split
        · rename_i hp
          rw [if_pos hp] at h
          simp only at h ⊢
          unfold bytesOk at h
          simp only [Bool.and_eq_true, decide_eq_true_eq] at h
          obtain ⟨hcl, hs, hev⟩ := h
          obtain ⟨r, hr⟩ := Option.isSome_iff_exists.1 hs
          obtain ⟨bs, hb1, hb2⟩ := prsGo_inv _ _ r hev hr
          rw [hr]
          unfold closedOf at hcl
          have e1 := pre_split hp
          have e2 := suf_split hcl
          show (txtBytes (Option.getD (some r) [])) = l
          unfold txtBytes txtB
          rw [Option.getD_some, hb1, List.nil_append, hb2]
          conv => rhs; rw [e1, e2]
          simp [innerOf]
        · rename_i hp
          rw [if_neg hp] at h
          split
          · rename_i hsu
            rw [if_pos hsu] at h
            split
            · rename_i n hn
              show ((Lib.decDigits n.toNat) ++ [117]) = l
              rw [numOf_dec hn]
              exact (suf_split hsu).symm
            · rename_i hn
              rw [hn] at h
              cases h
          · rename_i hsu
            rw [if_neg hsu] at h
            split
            · rename_i hmi
              rw [if_pos hmi] at h
              split
              · rename_i n hn
                rw [hn] at h
                have h1 : 1 ≤ n := of_decide_eq_true h
                show Lib.itoa (-n) = l
                unfold Lib.itoa
                rw [if_pos (by omega), show (-n).natAbs = n.toNat by omega, numOf_dec hn]
                exact (pre_split hmi).symm
              · rename_i hn
                rw [hn] at h
                cases h
            · rename_i hmi
              rw [if_neg hmi] at h
              split
              · rename_i n hn
                have hb := numOf_in (by omega) hn
                show Lib.itoa n = l
                unfold Lib.itoa
                rw [if_neg (by omega), numOf_dec hn]
              · rename_i hn
                rw [hn] at h
                cases h
end Go.Proofs.YtifmfcaaofiboaaGreatDoor
