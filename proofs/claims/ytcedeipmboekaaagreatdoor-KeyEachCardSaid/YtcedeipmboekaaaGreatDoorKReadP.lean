/-
  The value whose key begins some bytes: pure facts, no walk.
-/
import Derived.Test.YtcedeipmboekaaaGreatDoorKPure
namespace Go.Proofs.YtcedeipmboekaaaGreatDoor
open Go.RowKit

theorem readN_take {l : List UInt8} {n k : Nat} (h : readN l = some (n, k)) : l.take k = numB n := by
  cases l with
  | nil => simp [readN] at h
  | cons c t =>
    rw [readN_cons] at h
    split at h
    · rename_i hc
      obtain ⟨h8, hl, h0⟩ := hc
      simp only [Option.some.injEq, Prod.mk.injEq] at h
      obtain ⟨rfl, rfl⟩ := h
      have hlen : (t.take c.toNat).length = c.toNat := by rw [List.length_take]; omega
      have hlt := valOf_lt8 (t.take c.toNat) (by omega)
      have hlt2 : valOf (t.take c.toNat) 0 < 256 ^ c.toNat := by
        have := valOf_lt (t.take c.toNat) 0
        rw [hlen] at this
        omega
      have hle : sizeOf8 (valOf (t.take c.toNat) 0) ≤ c.toNat := (sizeOf8_le_iff _ _ hlt).2 hlt2
      have heq : sizeOf8 (valOf (t.take c.toNat) 0) = c.toNat := by
        by_cases hz : c.toNat = 0
        · omega
        · obtain ⟨m, hm⟩ : ∃ m, c.toNat = m + 1 := ⟨c.toNat - 1, by omega⟩
          refine Nat.le_antisymm hle ?_
          refine Nat.le_of_not_lt fun hlt3 => ?_
          have hsm : sizeOf8 (valOf (t.take c.toNat) 0) ≤ m := by omega
          rw [sizeOf8_le_iff _ _ hlt] at hsm
          have htl := tell_valOf (t.take c.toNat) 0
          rw [hlen, hm] at htl
          cases t with
          | nil => simp at hl; omega
          | cons x t =>
            rw [List.take_succ_cons] at htl
            have hx : byteAt (valOf ((x :: t).take (m + 1)) 0) m = x := (List.cons.inj htl).1
            rw [hm] at hsm
            have hz2 : byteAt (valOf ((x :: t).take (m + 1)) 0) m = 0 := by
              unfold byteAt
              rw [Nat.div_eq_of_lt hsm]
              rfl
            refine h0 ⟨by omega, ?_⟩
            rw [List.head?_cons, ← hx, hz2]
      unfold numB
      rw [heq]
      have htl := tell_valOf (t.take c.toNat) 0
      rw [hlen] at htl
      rw [htl, Nat.add_comm, List.take_succ_cons]
      congr 1
      simp
    · cases h
/-- the bytes whose groups l begins with, and how many these are; c bytes stood ahead -/
def readG : Nat → List UInt8 → Nat → Option (List UInt8 × Nat)
  | 0, _, _ => none
  | k + 1, l, c =>
    if l.length < 9 then none
    else if (l.getD 8 0).toNat = 9 then
      (if 200 < c + 8 then none else
        match readG k (l.drop 9) (c + 8) with
        | some (s, n) => some (l.take 8 ++ s, 9 + n)
        | none => none)
    else if (l.getD 8 0).toNat ≤ 8 ∧ l.take 8 = l.take (l.getD 8 0).toNat ++ List.replicate (8 - (l.getD 8 0).toNat) 0 ∧ ¬ ((l.getD 8 0).toNat = 0 ∧ 0 < c) ∧ c + (l.getD 8 0).toNat ≤ 200 then some (l.take (l.getD 8 0).toNat, 9)
    else none
theorem readG_more {k : Nat} {l : List UInt8} {c : Nat} (h9 : ¬ l.length < 9) (hm : (l.getD 8 0).toNat = 9) : readG (k + 1) l c = if 200 < c + 8 then none else match readG k (l.drop 9) (c + 8) with
    | some (s, n) => some (l.take 8 ++ s, 9 + n)
    | none => none := by
  rw [readG, if_neg h9, if_pos hm]
theorem readG_last {k : Nat} {l : List UInt8} {c : Nat} (h9 : ¬ l.length < 9) (hm : (l.getD 8 0).toNat ≠ 9) : readG (k + 1) l c = if (l.getD 8 0).toNat ≤ 8 ∧ l.take 8 = l.take (l.getD 8 0).toNat ++ List.replicate (8 - (l.getD 8 0).toNat) 0 ∧ ¬ ((l.getD 8 0).toNat = 0 ∧ 0 < c) ∧ c + (l.getD 8 0).toNat ≤ 200 then some (l.take (l.getD 8 0).toNat, 9) else none := by
  rw [readG, if_neg h9, if_neg hm]
theorem lastG_length {s : List UInt8} (h : s.length ≤ 8) : (lastG s).length = 9 := by
  unfold lastG
  simp
  omega
theorem getD8 (a b : List UInt8) (x : UInt8) (h : a.length = 8) : (a ++ x :: b).getD 8 0 = x := by
  rw [List.getD_eq_getElem?_getD, List.getElem?_append_right (by omega), h]
  simp
theorem cnt_nat {n : Nat} (h : n ≤ 9) : (UInt8.ofNat n).toNat = n := by
  rw [UInt8.toNat_ofNat']
  omega
theorem readG_grp : ∀ (k : Nat) (s m : List UInt8) (c : Nat), s.length ≤ 8 * k → 1 ≤ k → c + s.length ≤ 200 → (0 < c → s ≠ []) → readG k (grpB s ++ m) c = some (s, (grpB s).length)
  | 0, _, _, _, _, h, _, _ => absurd h (by omega)
  | k + 1, s, m, c, hk, _, hc, h0 => by
    by_cases h8 : s.length ≤ 8
    · rw [grpB_small h8]
      have hl := lastG_length h8
      have e : lastG s ++ m = (s ++ List.replicate (8 - s.length) 0) ++ UInt8.ofNat s.length :: m := by unfold lastG; simp
      have hl8 : (s ++ List.replicate (8 - s.length) (0 : UInt8)).length = 8 := by simp; omega
      have hg : ((lastG s ++ m).getD 8 0).toNat = s.length := by rw [e, getD8 _ _ _ hl8, cnt_nat (by omega)]
      rw [readG_last (by rw [List.length_append, hl]; omega) (by omega), hg, hl]
      have ht : (lastG s ++ m).take s.length = s := by unfold lastG; rw [List.append_assoc, List.take_left' rfl]
      rw [ht, if_pos]
      refine ⟨h8, ?_, ?_, hc⟩
      · rw [e, List.take_left' hl8]
      · rintro ⟨h1, h2⟩
        exact h0 h2 (List.eq_nil_of_length_eq_zero h1)
    · have h9 : 8 < s.length := by omega
      rw [grpB_more h9]
      have hl8 : (s.take 8).length = 8 := by rw [List.length_take]; omega
      have e : (s.take 8 ++ 9 :: grpB (s.drop 8)) ++ m = s.take 8 ++ (9 : UInt8) :: (grpB (s.drop 8) ++ m) := by simp
      rw [e]
      have hg : ((s.take 8 ++ (9 : UInt8) :: (grpB (s.drop 8) ++ m)).getD 8 0).toNat = 9 := by rw [getD8 _ _ _ hl8]; rfl
      have hd : (s.take 8 ++ (9 : UInt8) :: (grpB (s.drop 8) ++ m)).drop 9 = grpB (s.drop 8) ++ m := by
        rw [show s.take 8 ++ (9 : UInt8) :: (grpB (s.drop 8) ++ m) = (s.take 8 ++ [9]) ++ (grpB (s.drop 8) ++ m) by simp, List.drop_left' (by simp; omega)]
      have hk1 : 1 ≤ k := by omega
      rw [readG_more (by simp; omega) hg, if_neg (by omega), hd, readG_grp k (s.drop 8) m (c + 8) (by rw [List.length_drop]; omega) hk1 (by rw [List.length_drop]; omega) (fun _ e => by have := congrArg List.length e; simp at this; omega), List.take_left' hl8]
      simp only [List.take_append_drop]
      congr 2
      simp
      omega
theorem take8_cons (l : List UInt8) (h : ¬ l.length < 9) : l.take 9 = l.take 8 ++ [l.getD 8 0] := by
  rw [List.take_add_one, List.getD_eq_getElem?_getD, List.getElem?_eq_getElem (by omega)]
  rfl
theorem readG_take : ∀ (k : Nat) (l s : List UInt8) (c n : Nat), readG k l c = some (s, n) → c + s.length ≤ 200 ∧ n ≤ l.length ∧ 9 ≤ n ∧ l.take n = grpB s ∧ (0 < c → s ≠ [])
  | 0, _, _, _, _, h => by simp [readG] at h
  | k + 1, l, s, c, n, h => by
    by_cases h9 : l.length < 9
    · rw [readG, if_pos h9] at h; cases h
    by_cases hm : (l.getD 8 0).toNat = 9
    · rw [readG_more h9 hm] at h
      split at h
      · cases h
      · rename_i hc
        cases hr : readG k (l.drop 9) (c + 8) with
        | none => rw [hr] at h; cases h
        | some x =>
          obtain ⟨t, j⟩ := x
          rw [hr] at h
          simp only [Option.some.injEq, Prod.mk.injEq] at h
          obtain ⟨rfl, rfl⟩ := h
          obtain ⟨a1, a2, a3, a4, a5⟩ := readG_take k (l.drop 9) t (c + 8) j hr
          have hne := a5 (by omega)
          have hl8 : (l.take 8).length = 8 := by rw [List.length_take]; omega
          have htl : 0 < t.length := by
            cases t with
            | nil => exact absurd rfl hne
            | cons _ _ => simp
          rw [List.length_drop] at a2
          have hx : l.getD 8 0 = 9 := UInt8.toNat_inj.1 hm
          refine ⟨by rw [List.length_append, hl8]; omega, by omega, by omega, ?_, fun _ e => ?_⟩
          · rw [List.take_add, a4, take8_cons l h9, hx, grpB_more (s := l.take 8 ++ t) (by rw [List.length_append, hl8]; omega), List.take_left' hl8, List.drop_left' hl8]
            simp
          · have := congrArg List.length e
            rw [List.length_append, hl8] at this
            simp at this
    · rw [readG_last h9 hm] at h
      split at h
      · rename_i hc
        obtain ⟨c1, c2, c3, c4⟩ := hc
        simp only [Option.some.injEq, Prod.mk.injEq] at h
        obtain ⟨rfl, rfl⟩ := h
        have hl : (l.take (l.getD 8 0).toNat).length = (l.getD 8 0).toNat := by rw [List.length_take]; omega
        refine ⟨by rw [hl]; exact c4, by omega, by omega, ?_, fun h0 e => ?_⟩
        · rw [grpB_small (by rw [hl]; exact c1)]
          unfold lastG
          rw [hl, take8_cons l h9, c2, List.append_assoc]
          congr 2
          simp
        · have := congrArg List.length e
          rw [hl] at this
          exact c3 ⟨this, h0⟩
      · cases h

/-- the value with whose key l begins, and how many bytes this has -/
def readKey : List UInt8 → Option (Vl × Nat)
  | [] => none
  | h :: t =>
    if h = 0 then some (val0, 1)
    else if h = 1 then (if 8 ≤ t.length then some (⟨1, ((valOf (t.take 8) 0 : Nat) : Int) - 9223372036854775808, 0, ⟨#[]⟩⟩, 9) else none)
    else if h = 2 then (match readN t with
      | some (n, k) => some (⟨2, 0, n, ⟨#[]⟩⟩, 1 + k)
      | none => none)
    else if h = 3 then (match t with
      | x :: _ => if x.toNat ≤ 1 then some (⟨3, x.toNat, 0, ⟨#[]⟩⟩, 2) else none
      | [] => none)
    else if h = 4 then (match readG 30 t 0 with
      | some (s, n) => some (⟨4, 0, 0, ⟨s.toArray⟩⟩, 1 + n)
      | none => none)
    else none
theorem readKey_0 (t : List UInt8) : readKey (0 :: t) = some (val0, 1) := rfl
theorem readKey_1 (t : List UInt8) : readKey (1 :: t) = if 8 ≤ t.length then some (⟨1, ((valOf (t.take 8) 0 : Nat) : Int) - 9223372036854775808, 0, ⟨#[]⟩⟩, 9) else none := rfl
theorem readKey_2 (t : List UInt8) : readKey (2 :: t) = match readN t with
    | some (n, k) => some (⟨2, 0, n, ⟨#[]⟩⟩, 1 + k)
    | none => none := rfl
theorem readKey_3 (x : UInt8) (t : List UInt8) : readKey (3 :: x :: t) = if x.toNat ≤ 1 then some (⟨3, x.toNat, 0, ⟨#[]⟩⟩, 2) else none := rfl
theorem readKey_4 (t : List UInt8) : readKey (4 :: t) = match readG 30 t 0 with
    | some (s, n) => some (⟨4, 0, 0, ⟨s.toArray⟩⟩, 1 + n)
    | none => none := rfl
theorem readKey_keyB {v : Vl} (m : List UInt8) (h : VOk v) : readKey (keyB v ++ m) = some (v, (keyB v).length) := by
  have i0 := h.i0
  have i1 := h.i1
  have u0 := h.u0
  have u1 := h.u1
  rcases chk_forms h.c with rfl | ⟨i, rfl⟩ | ⟨u, rfl⟩ | rfl | rfl | ⟨s, rfl, hs⟩
  · rw [keyB_0]; rfl
  · simp only at i0 i1
    have hl := tellL_length ((i + 9223372036854775808) % 18446744073709551616).toNat 8
    rw [keyB_i, List.cons_append, readKey_1, if_pos (by rw [List.length_append, hl]; omega), List.take_left' hl, valOf_tell, List.length_cons, hl]
    congr 3
    have : (256 : Nat) ^ 8 = 18446744073709551616 := by decide
    rw [this]
    omega
  · simp only at u0 u1
    rw [keyB_u, List.cons_append, readKey_2, readN_numB _ _ (by omega)]
    simp only [List.length_cons, numB_length]
    congr 2
    · congr 1
      omega
    · omega
  · rw [keyB_b]; rfl
  · rw [keyB_b]; rfl
  · rw [keyB_s, List.cons_append, readKey_4, readG_grp 30 _ m 0 (by rw [Array.length_toList]; have : s.data.size = s.size := rfl; omega) (by omega) (by rw [Array.length_toList]; have : s.data.size = s.size := rfl; omega) (fun h => by omega)]
    simp only [List.length_cons]
    congr 2
    omega
theorem valOf8_lt (l : List UInt8) : valOf (l.take 8) 0 < 18446744073709551616 := valOf_lt8 _ (by rw [List.length_take]; omega)
theorem keyB_readKey {l : List UInt8} {v : Vl} {k : Nat} (h : readKey l = some (v, k)) : VOk v ∧ 1 ≤ k ∧ k ≤ l.length ∧ l.take k = keyB v := by
  cases l with
  | nil => cases h
  | cons x t =>
    by_cases h0 : x = 0
    · subst h0
      rw [readKey_0] at h
      simp only [Option.some.injEq, Prod.mk.injEq] at h
      obtain ⟨rfl, rfl⟩ := h
      exact ⟨⟨chk0, by decide, by decide, by decide, by decide⟩, by omega, by simp, by rw [keyB_0]; rfl⟩
    by_cases h1 : x = 1
    · subst h1
      rw [readKey_1] at h
      split at h
      · rename_i hl
        simp only [Option.some.injEq, Prod.mk.injEq] at h
        obtain ⟨rfl, rfl⟩ := h
        have hlt := valOf8_lt t
        have hlen : (t.take 8).length = 8 := by rw [List.length_take]; omega
        have ht := tell_valOf (t.take 8) 0
        rw [hlen] at ht
        generalize valOf (t.take 8) 0 = n at *
        refine ⟨⟨?_, by simp only; omega, by simp only; omega, by simp, by simp⟩, by omega, by rw [List.length_cons]; omega, ?_⟩
        · simp [Vl.chk, chk, vEqB, onlyI, onlyU, onlyS, emptyZ]
        · rw [keyB_i, List.take_succ_cons, show ((n : Int) - 9223372036854775808 + 9223372036854775808) % 18446744073709551616 = n by omega, Int.toNat_natCast, ht]
      · cases h
    by_cases h2 : x = 2
    · subst h2
      rw [readKey_2] at h
      cases hr : readN t with
      | none => rw [hr] at h; cases h
      | some y =>
        obtain ⟨n, j⟩ := y
        rw [hr] at h
        simp only [Option.some.injEq, Prod.mk.injEq] at h
        obtain ⟨rfl, rfl⟩ := h
        have hlt := readN_lt hr
        refine ⟨⟨?_, by simp, by simp, by simp, by simp only; omega⟩, by omega, by rw [List.length_cons]; omega, ?_⟩
        · simp [Vl.chk, chk, vEqB, onlyI, onlyU, onlyS, emptyZ]
        · rw [keyB_u, Nat.add_comm 1, List.take_succ_cons, readN_take hr, Int.toNat_natCast]
    by_cases h3 : x = 3
    · subst h3
      cases t with
      | nil => cases h
      | cons y t =>
        rw [readKey_3] at h
        split at h
        · rename_i hy
          simp only [Option.some.injEq, Prod.mk.injEq] at h
          obtain ⟨rfl, rfl⟩ := h
          have hy2 : y = 0 ∨ y = 1 := by
            rcases (show y.toNat = 0 ∨ y.toNat = 1 by omega) with e | e
            · exact .inl (UInt8.toNat_inj.1 e)
            · exact .inr (UInt8.toNat_inj.1 e)
          rcases hy2 with rfl | rfl
          · exact ⟨⟨chk30, by decide, by decide, by decide, by decide⟩, by omega, by simp, by rw [keyB_b]; rfl⟩
          · exact ⟨⟨chk31, by decide, by decide, by decide, by decide⟩, by omega, by simp, by rw [keyB_b]; rfl⟩
        · cases h
    by_cases h4 : x = 4
    · subst h4
      rw [readKey_4] at h
      cases hr : readG 30 t 0 with
      | none => rw [hr] at h; cases h
      | some y =>
        obtain ⟨s, n⟩ := y
        rw [hr] at h
        simp only [Option.some.injEq, Prod.mk.injEq] at h
        obtain ⟨rfl, rfl⟩ := h
        obtain ⟨a1, a2, a3, a4, _⟩ := readG_take 30 t s 0 n hr
        have hsz : (⟨s.toArray⟩ : ByteArray).size = s.length := by show s.toArray.size = _; simp
        refine ⟨⟨?_, by simp, by simp, by simp, by simp⟩, by omega, by rw [List.length_cons]; omega, ?_⟩
        · have : ((⟨s.toArray⟩ : ByteArray).size : Int) ≤ 200 := by rw [hsz]; omega
          simp [Vl.chk, chk, vEqB, onlyI, onlyU, onlyS, this]
        · rw [keyB_s, Nat.add_comm 1, List.take_succ_cons, a4]
    · have : readKey (x :: t) = none := by
        simp only [readKey]
        rw [if_neg h0, if_neg h1, if_neg h2, if_neg h3, if_neg h4]
      rw [this] at h
      cases h

/-- the values whose key l is -/
def readKeys : Nat → List UInt8 → Option (List Vl)
  | _, [] => some []
  | 0, _ :: _ => none
  | f + 1, x :: t =>
    match readKey (x :: t) with
    | none => none
    | some (v, k) =>
      match readKeys f ((x :: t).drop k) with
      | none => none
      | some l => some (v :: l)
theorem readKeys_keyL : ∀ (l : List Vl) (f : Nat), (∀ v ∈ l, VOk v) → (keyL l).length ≤ f → readKeys f (keyL l) = some l
  | [], f, _, _ => by cases f <;> rfl
  | v :: l, f, h, hf => by
    have hv := h v (List.mem_cons_self ..)
    obtain ⟨_, _, t, e⟩ := key_head hv
    have hlen : (keyL (v :: l)).length = (keyB v).length + (keyL l).length := by show (keyB v ++ keyL l).length = _; rw [List.length_append]
    have hpos : 1 ≤ (keyB v).length := by rw [e]; simp
    obtain ⟨g, rfl⟩ : ∃ g, f = g + 1 := ⟨f - 1, by omega⟩
    have hr := readKey_keyB (keyL l) hv
    have hd : (keyB v ++ keyL l).drop (keyB v).length = keyL l := List.drop_left' rfl
    show readKeys (g + 1) (keyB v ++ keyL l) = _
    have e2 : keyB v ++ keyL l = UInt8.ofNat v.k.toNat :: (t ++ keyL l) := by rw [e, List.cons_append]
    rw [e2] at hr hd ⊢
    unfold readKeys
    rw [hr]
    simp only
    rw [hd, readKeys_keyL l g (fun v h' => h v (List.mem_cons_of_mem _ h')) (by omega)]
theorem keyL_readKeys : ∀ (f : Nat) (l : List UInt8) (vs : List Vl), readKeys f l = some vs → keyL vs = l ∧ ∀ v ∈ vs, VOk v
  | f, [], vs, h => by
    have : vs = [] := by cases f <;> (simp [readKeys] at h; exact h)
    subst this
    exact ⟨rfl, fun _ h => by cases h⟩
  | 0, _ :: _, vs, h => by simp [readKeys] at h
  | f + 1, x :: t, vs, h => by
    unfold readKeys at h
    cases hr : readKey (x :: t) with
    | none => rw [hr] at h; cases h
    | some y =>
      obtain ⟨v, k⟩ := y
      rw [hr] at h
      simp only at h
      cases hq : readKeys f ((x :: t).drop k) with
      | none => rw [hq] at h; cases h
      | some ws =>
        rw [hq] at h
        simp only [Option.some.injEq] at h
        subst h
        obtain ⟨a1, _, _, a4⟩ := keyB_readKey hr
        obtain ⟨b1, b2⟩ := keyL_readKeys f _ ws hq
        refine ⟨?_, fun z hz => ?_⟩
        · show keyB v ++ keyL ws = _
          rw [b1, ← a4, List.take_append_drop]
        · rcases List.mem_cons.1 hz with rfl | hz
          · exact a1
          · exact b2 z hz
end Go.Proofs.YtcedeipmboekaaaGreatDoor
