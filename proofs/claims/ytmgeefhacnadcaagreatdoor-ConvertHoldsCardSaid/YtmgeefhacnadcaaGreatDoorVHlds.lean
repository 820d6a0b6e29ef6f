/-
  P6.3: conversions there and back; sure ones. No program.
-/
import Derived.Test.YtmgeefhacnadcaaGreatDoorVPure
import Derived.Test.YtmgeefhacnadcaaGreatDoorVSur
namespace Go.Proofs.YtmgeefhacnadcaaGreatDoor
open Go.RowKit

theorem vEq_same (v : Vl) : vEqB v.k v.i v.u v.s v.k v.i v.u v.s = true := by simp [vEqB]
theorem vEq_diff {v y : Vl} (h : v ≠ y) : vEqB v.k v.i v.u v.s y.k y.i y.u y.s = false := by
  cases e : vEqB v.k v.i v.u v.s y.k y.i y.u y.s
  · rfl
  · exfalso
    unfold vEqB at e
    simp only [Bool.and_eq_true, beq_iff_eq] at e
    obtain ⟨e0, e1, e2, e3⟩ := e
    have e3 := ba_eq e3
    obtain ⟨k, i, u, s⟩ := v
    obtain ⟨k', i', u', s'⟩ := y
    have e0 : k = k' := e0
    have e1 : i = i' := e1
    have e2 : u = u' := e2
    have e3 : s = s' := e3
    subst e0 e1 e2 e3
    exact h rfl
theorem eql_same (v : Vl) (W : World) : (binOp .eql 28 (.agg #[.int .i64 v.k, .int .i64 v.i, .int .u64 v.u, .string v.s]) (.agg #[.int .i64 v.k, .int .i64 v.i, .int .u64 v.u, .string v.s])).run Tryz.prog W = .ok (.bool true) W := by
  rw [← vEq_same v]
  exact run_eql_val v.k v.i v.u v.s v.k v.i v.u v.s W
theorem eql_diff {v y : Vl} (h : v ≠ y) (W : World) : (binOp .eql 28 (.agg #[.int .i64 v.k, .int .i64 v.i, .int .u64 v.u, .string v.s]) (.agg #[.int .i64 y.k, .int .i64 y.i, .int .u64 y.u, .string y.s])).run Tryz.prog W = .ok (.bool false) W := by
  rw [← vEq_diff h]
  exact run_eql_val v.k v.i v.u v.s y.k y.i y.u y.s W
end Go.Proofs.YtmgeefhacnadcaaGreatDoor
namespace Go.Proofs.YtmgeefhacnadcaaGreatDoor
open Go.RowKit

theorem nDig_le : ∀ (k u : Nat), 1 ≤ k → u < 10 ^ k → Lib.nDigits u ≤ k
  | 0, _, h, _ => absurd h (by decide)
  | k + 1, u, _, h => by
    by_cases hu : u < 10
    · rw [Lib.nDigits_small hu]; omega
    · rw [Lib.nDigits_big hu]
      rw [Nat.pow_succ] at h
      have hk : 1 ≤ k := by
        rcases Nat.eq_zero_or_pos k with rfl | hk
        · omega
        · exact hk
      have := nDig_le k (u / 10) hk (by omega)
      omega
theorem dec_len {k u : Nat} (hk : 1 ≤ k) (h : u < 10 ^ k) : (Lib.decDigits u).length ≤ k := by
  rw [Lib.decDigits_length]
  exact nDig_le k u hk h
theorem dec_head (u : Nat) : (Lib.decDigits u).head? ≠ some 45 := by
  intro h
  obtain ⟨c, r, hcr⟩ : ∃ c r, Lib.decDigits u = c :: r := by
    cases hd : Lib.decDigits u with
    | nil => exact absurd hd (decDigits_ne u)
    | cons c r => exact ⟨c, r, rfl⟩
  rw [hcr] at h
  have hc : c = 45 := by simpa using h
  have := decDigits_mem u c (by rw [hcr]; exact List.mem_cons_self ..)
  rw [hc] at this
  exact absurd this.1 (by decide)
theorem sgn_itoa (n : Int) (h0 : -9223372036854775808 ≤ n) (h1 : n ≤ 9223372036854775807) : sgnOf (Lib.itoa n) = some n := by
  unfold Lib.itoa sgnOf
  by_cases hn : n < 0
  · rw [if_pos hn, if_pos (show (45 :: Lib.decDigits n.natAbs).head? = some 45 from rfl), List.tail_cons, numOf_digits n.natAbs M64 (by unfold M64; omega) (by decide)]
    show (if ((n.natAbs : Nat) : Int) = 0 ∨ 9223372036854775808 < ((n.natAbs : Nat) : Int) then none else some (-((n.natAbs : Nat) : Int))) = some n
    rw [if_neg (by omega)]
    congr 1
    omega
  · rw [if_neg hn, if_neg (dec_head _), numOf_digits n.toNat M64 (by unfold M64; omega) (by decide)]
    show (if ((n.toNat : Nat) : Int) ≤ 9223372036854775807 then some ((n.toNat : Nat) : Int) else none) = some n
    rw [if_pos (by omega)]
    congr 1
    omega
theorem itoa_sgn {l : List UInt8} {n : Int} (h : sgnOf l = some n) : Lib.itoa n = l := by
  unfold sgnOf at h
  by_cases hl : l.head? = some 45
  · rw [if_pos hl] at h
    obtain ⟨r, rfl⟩ : ∃ r, l = 45 :: r := by
      cases l with
      | nil => cases hl
      | cons c r => exact ⟨r, by simpa using hl⟩
    rw [List.tail_cons] at h
    cases hm : numOf M64 r with
    | none => rw [hm] at h; cases h
    | some m =>
      rw [hm] at h
      replace h : (if m = 0 ∨ 9223372036854775808 < m then none else some (-m)) = some n := h
      have hb := numOf_in (by decide) hm
      by_cases hz : m = 0 ∨ 9223372036854775808 < m
      · rw [if_pos hz] at h; cases h
      · rw [if_neg hz] at h
        injection h with h
        have hd := numOf_dec hm
        unfold Lib.itoa
        rw [if_pos (by omega), show n.natAbs = m.toNat by omega, hd]
  · rw [if_neg hl] at h
    cases hm : numOf M64 l with
    | none => rw [hm] at h; cases h
    | some m =>
      rw [hm] at h
      replace h : (if m ≤ 9223372036854775807 then some m else none) = some n := h
      have hb := numOf_in (by decide) hm
      by_cases hz : m ≤ 9223372036854775807
      · rw [if_pos hz] at h
        injection h with h
        subst h
        have hd := numOf_dec hm
        unfold Lib.itoa
        rw [if_neg (by omega), hd]
      · rw [if_neg hz] at h; cases h
theorem dec_toList (l : List UInt8) : (⟨l.toArray⟩ : ByteArray).data.toList = l := by simp
/-- what is turned, way by way -/
inductive TurnF (v x : Vl) : Int → Int → Prop
  | same (a : Int) (h : x = v) : TurnF v x a a
  | iu (h0 : 0 ≤ v.i) (h : x = ⟨2, 0, v.i, ⟨#[]⟩⟩) : TurnF v x 1 2
  | ib (h0 : v.i = 0 ∨ v.i = 1) (h : x = ⟨3, v.i, 0, ⟨#[]⟩⟩) : TurnF v x 1 3
  | is (h : x = ⟨4, 0, 0, ⟨(Lib.itoa v.i).toArray⟩⟩) : TurnF v x 1 4
  | ui (h0 : v.u ≤ 9223372036854775807) (h : x = ⟨1, v.u, 0, ⟨#[]⟩⟩) : TurnF v x 2 1
  | ub (h0 : v.u = 0 ∨ v.u = 1) (h : x = ⟨3, v.u, 0, ⟨#[]⟩⟩) : TurnF v x 2 3
  | us (h : x = ⟨4, 0, 0, ⟨(Lib.decDigits v.u.toNat).toArray⟩⟩) : TurnF v x 2 4
  | bi (h : x = ⟨1, v.i, 0, ⟨#[]⟩⟩) : TurnF v x 3 1
  | bu (h0 : 0 ≤ v.i) (h : x = ⟨2, 0, v.i, ⟨#[]⟩⟩) : TurnF v x 3 2
  | si (n : Int) (h0 : sgnOf v.s.data.toList = some n) (h : x = ⟨1, n, 0, ⟨#[]⟩⟩) : TurnF v x 4 1
  | su (n : Int) (h0 : numOf M64 v.s.data.toList = some n) (h : x = ⟨2, 0, n, ⟨#[]⟩⟩) : TurnF v x 4 2
theorem turn_forms {a b : Int} {v x : Vl} (ha : a = 1 ∨ a = 2 ∨ a = 3 ∨ a = 4) (hb : b = 1 ∨ b = 2 ∨ b = 3 ∨ b = 4) (hw : wayB a b = true) (h : turnO a b v = some x) : TurnF v x a b := by
  rcases ha with rfl | rfl | rfl | rfl <;> rcases hb with rfl | rfl | rfl | rfl
  · exact .same _ (by simpa [turnO, eq_comm] using h)
  · have h' : (if 0 ≤ v.i then some (⟨2, 0, v.i, ⟨#[]⟩⟩ : Vl) else none) = some x := h
    split at h'
    · rename_i h0; injection h' with h'; exact .iu h0 h'.symm
    · cases h'
  · have h' : (if v.i = 0 ∨ v.i = 1 then some (⟨3, v.i, 0, ⟨#[]⟩⟩ : Vl) else none) = some x := h
    split at h'
    · rename_i h0; injection h' with h'; exact .ib h0 h'.symm
    · cases h'
  · have h' : some (⟨4, 0, 0, ⟨(Lib.itoa v.i).toArray⟩⟩ : Vl) = some x := h
    injection h' with h'; exact .is h'.symm
  · have h' : (if v.u ≤ 9223372036854775807 then some (⟨1, v.u, 0, ⟨#[]⟩⟩ : Vl) else none) = some x := h
    split at h'
    · rename_i h0; injection h' with h'; exact .ui h0 h'.symm
    · cases h'
  · exact .same _ (by simpa [turnO, eq_comm] using h)
  · have h' : (if v.u = 0 ∨ v.u = 1 then some (⟨3, v.u, 0, ⟨#[]⟩⟩ : Vl) else none) = some x := h
    split at h'
    · rename_i h0; injection h' with h'; exact .ub h0 h'.symm
    · cases h'
  · have h' : some (⟨4, 0, 0, ⟨(Lib.decDigits v.u.toNat).toArray⟩⟩ : Vl) = some x := h
    injection h' with h'; exact .us h'.symm
  · have h' : some (⟨1, v.i, 0, ⟨#[]⟩⟩ : Vl) = some x := h
    injection h' with h'; exact .bi h'.symm
  · have h' : (if 0 ≤ v.i then some (⟨2, 0, v.i, ⟨#[]⟩⟩ : Vl) else none) = some x := h
    split at h'
    · rename_i h0; injection h' with h'; exact .bu h0 h'.symm
    · cases h'
  · exact .same _ (by simpa [turnO, eq_comm] using h)
  · cases hw
  · have h' : (sgnOf v.s.data.toList).map (fun n => (⟨1, n, 0, ⟨#[]⟩⟩ : Vl)) = some x := h
    cases hs : sgnOf v.s.data.toList with
    | none => rw [hs] at h'; cases h'
    | some n => rw [hs] at h'; injection h' with h'; exact .si n hs h'.symm
  · have h' : (numOf M64 v.s.data.toList).map (fun n => (⟨2, 0, n, ⟨#[]⟩⟩ : Vl)) = some x := h
    cases hs : numOf M64 v.s.data.toList with
    | none => rw [hs] at h'; cases h'
    | some n => rw [hs] at h'; injection h' with h'; exact .su n hs h'.symm
  · cases hw
  · exact .same _ (by simpa [turnO, eq_comm] using h)
theorem turn_kind {a b : Int} {v x : Vl} (hk : v.k = a) (h : TurnF v x a b) : x.k = b := by
  cases h
  case same h => rw [h, hk]
  all_goals (rename_i h; rw [h])
theorem itoa_len (n : Int) (h0 : -9223372036854775808 ≤ n) (h1 : n ≤ 9223372036854775807) : (⟨(Lib.itoa n).toArray⟩ : ByteArray).size ≤ 21 := by
  have := Lib.itoa_length_le n h0 h1
  simpa [ByteArray.size] using this
theorem dec_size (n : Nat) (h : n ≤ 18446744073709551615) : (⟨(Lib.decDigits n).toArray⟩ : ByteArray).size ≤ 20 := by
  have := dec_len (k := 20) (u := n) (by decide) (by omega)
  simpa [ByteArray.size] using this
theorem ok_mk (k i u : Int) (s : ByteArray) (i0 : -9223372036854775808 ≤ i) (i1 : i ≤ 9223372036854775807) (u0 : 0 ≤ u) (u1 : u ≤ 18446744073709551615) (z : s.size ≤ 300) : (⟨k, i, u, s⟩ : Vl).ok := ⟨i0, i1, u0, u1, z⟩
theorem turn_ok {a b : Int} {v x : Vl} (hv : v.ok) (h : TurnF v x a b) : x.ok := by
  obtain ⟨i0, i1, u0, u1, z⟩ := hv
  cases h
  case same h => rw [h]; exact ⟨i0, i1, u0, u1, z⟩
  case iu h0 h => rw [h]; exact ok_mk _ _ _ _ (by decide) (by decide) h0 (by omega) (by decide)
  case ib h0 h => rw [h]; exact ok_mk _ _ _ _ i0 i1 (by decide) (by decide) (by decide)
  case is h => rw [h]; exact ok_mk _ _ _ _ (by decide) (by decide) (by decide) (by decide) (by have := itoa_len v.i i0 i1; omega)
  case ui h0 h => rw [h]; exact ok_mk _ _ _ _ (by omega) h0 (by decide) (by decide) (by decide)
  case ub h0 h => rw [h]; exact ok_mk _ _ _ _ (by omega) (by omega) (by decide) (by decide) (by decide)
  case us h => rw [h]; exact ok_mk _ _ _ _ (by decide) (by decide) (by decide) (by decide) (by have := dec_size v.u.toNat (by omega); omega)
  case bi h => rw [h]; exact ok_mk _ _ _ _ i0 i1 (by decide) (by decide) (by decide)
  case bu h0 h => rw [h]; exact ok_mk _ _ _ _ (by decide) (by decide) h0 (by omega) (by decide)
  case si n h0 h => rw [h]; have := sgn_in h0; exact ok_mk _ _ _ _ this.1 this.2 (by decide) (by decide) (by decide)
  case su n h0 h => rw [h]; have := numOf_in (by decide) h0; unfold M64 at this; exact ok_mk _ _ _ _ (by decide) (by decide) this.1 this.2 (by decide)
theorem turn_back {a b : Int} {v x : Vl} (hk : v.k = a) (hv : v.ok) (hc : v.chk = 0) (h : TurnF v x a b) : turnO b a x = some v := by
  obtain ⟨i0, i1, u0, u1, z⟩ := hv
  have hf := chk_forms hc
  cases h
  case same h => rw [h]; simp [turnO]
  case iu h0 h =>
    obtain ⟨i, rfl⟩ : ∃ i, v = ⟨1, i, 0, ⟨#[]⟩⟩ := by rcases hf with rfl | ⟨i, rfl⟩ | ⟨u, rfl⟩ | rfl | rfl | ⟨s, rfl, _⟩ <;> first | exact ⟨_, rfl⟩ | cases hk
    rw [h]
    exact if_pos i1
  case ib h0 h =>
    obtain ⟨i, rfl⟩ : ∃ i, v = ⟨1, i, 0, ⟨#[]⟩⟩ := by rcases hf with rfl | ⟨i, rfl⟩ | ⟨u, rfl⟩ | rfl | rfl | ⟨s, rfl, _⟩ <;> first | exact ⟨_, rfl⟩ | cases hk
    rw [h]; rfl
  case is h =>
    obtain ⟨i, rfl⟩ : ∃ i, v = ⟨1, i, 0, ⟨#[]⟩⟩ := by rcases hf with rfl | ⟨i, rfl⟩ | ⟨u, rfl⟩ | rfl | rfl | ⟨s, rfl, _⟩ <;> first | exact ⟨_, rfl⟩ | cases hk
    rw [h]
    show (sgnOf (Lib.itoa i).toArray.toList).map _ = _
    rw [List.toList_toArray, sgn_itoa i i0 i1]
    rfl
  case ui h0 h =>
    obtain ⟨u, rfl⟩ : ∃ u, v = ⟨2, 0, u, ⟨#[]⟩⟩ := by rcases hf with rfl | ⟨i, rfl⟩ | ⟨u, rfl⟩ | rfl | rfl | ⟨s, rfl, _⟩ <;> first | exact ⟨_, rfl⟩ | cases hk
    rw [h]
    exact if_pos u0
  case ub h0 h =>
    obtain ⟨u, rfl⟩ : ∃ u, v = ⟨2, 0, u, ⟨#[]⟩⟩ := by rcases hf with rfl | ⟨i, rfl⟩ | ⟨u, rfl⟩ | rfl | rfl | ⟨s, rfl, _⟩ <;> first | exact ⟨_, rfl⟩ | cases hk
    rw [h]
    exact if_pos u0
  case us h =>
    obtain ⟨u, rfl⟩ : ∃ u, v = ⟨2, 0, u, ⟨#[]⟩⟩ := by rcases hf with rfl | ⟨i, rfl⟩ | ⟨u, rfl⟩ | rfl | rfl | ⟨s, rfl, _⟩ <;> first | exact ⟨_, rfl⟩ | cases hk
    rw [h]
    show (numOf M64 (Lib.decDigits u.toNat).toArray.toList).map _ = _
    have u1' : u ≤ 18446744073709551615 := u1
    have u0' : 0 ≤ u := u0
    rw [List.toList_toArray, numOf_digits u.toNat M64 (by unfold M64; omega) (by decide), show ((u.toNat : Nat) : Int) = u by omega]
    rfl
  case bi h =>
    rw [h]
    rcases hf with rfl | ⟨i, rfl⟩ | ⟨u, rfl⟩ | rfl | rfl | ⟨s, rfl, _⟩ <;> first | rfl | cases hk
  case bu h0 h =>
    rw [h]
    rcases hf with rfl | ⟨i, rfl⟩ | ⟨u, rfl⟩ | rfl | rfl | ⟨s, rfl, _⟩ <;> first | rfl | cases hk
  case si n h0 h =>
    obtain ⟨s, rfl⟩ : ∃ s, v = ⟨4, 0, 0, s⟩ := by rcases hf with rfl | ⟨i, rfl⟩ | ⟨u, rfl⟩ | rfl | rfl | ⟨s, rfl, _⟩ <;> first | exact ⟨_, rfl⟩ | cases hk
    rw [h]
    show some (⟨4, 0, 0, ⟨(Lib.itoa n).toArray⟩⟩ : Vl) = _
    rw [itoa_sgn h0]
  case su n h0 h =>
    obtain ⟨s, rfl⟩ : ∃ s, v = ⟨4, 0, 0, s⟩ := by rcases hf with rfl | ⟨i, rfl⟩ | ⟨u, rfl⟩ | rfl | rfl | ⟨s, rfl, _⟩ <;> first | exact ⟨_, rfl⟩ | cases hk
    rw [h]
    show some (⟨4, 0, 0, ⟨(Lib.decDigits n.toNat).toArray⟩⟩ : Vl) = _
    rw [numOf_dec h0]
theorem way_back (a b : Int) : wayB b a = wayB a b := by
  unfold wayB
  cases (a == 3) <;> cases (b == 3) <;> cases (a == 4) <;> cases (b == 4) <;> rfl
/-- what is converted, converted back, is what it was -/
theorem cv_back {c d : Col} {v : Vl} (hv : v.ok) (h : (cvO c d v).1 = 0) : cvO d c (cvO c d v).2 = (0, v) ∧ (cvO c d v).2.ok := by
  cases h1 : colOk c
  · unfold cvO at h; rw [if_pos (.inl h1)] at h; cases h
  cases h2 : colOk d
  · unfold cvO at h; rw [if_pos (.inr h2)] at h; cases h
  have hcd : ¬ (colOk c = false ∨ colOk d = false) := by rw [h1, h2]; simp
  have hdc : ¬ (colOk d = false ∨ colOk c = false) := by rw [h1, h2]; simp
  by_cases hf : fitN c v = 0
  · by_cases hw : wayB c.t d.t = false
    · unfold cvO at h; rw [if_neg hcd, if_neg (by rw [hf]; simp), if_pos hw] at h; cases h
    · have hw' : ¬ wayB d.t c.t = false := by rw [way_back]; exact hw
      by_cases hk : v.k = 0
      · by_cases hg : fitN d v = 0
        · have e : cvO c d v = (0, v) := by unfold cvO; rw [if_neg hcd, if_neg (by rw [hf]; simp), if_neg hw, if_pos hk, if_pos hg]
          rw [e]
          refine ⟨?_, hv⟩
          show cvO d c v = _
          unfold cvO
          rw [if_neg hdc, if_neg (by rw [hg]; simp), if_neg hw', if_pos hk, if_pos hf]
        · unfold cvO at h; rw [if_neg hcd, if_neg (by rw [hf]; simp), if_neg hw, if_pos hk, if_neg hg] at h; cases h
      · cases ht : turnO c.t d.t v with
        | none => unfold cvO at h; rw [if_neg hcd, if_neg (by rw [hf]; simp), if_neg hw, if_neg hk, ht] at h; cases h
        | some x =>
          by_cases hg : fitN d x = 0
          · have e : cvO c d v = (0, x) := by
              unfold cvO
              rw [if_neg hcd, if_neg (by rw [hf]; simp), if_neg hw, if_neg hk, ht]
              exact if_pos hg
            have hwt : wayB c.t d.t = true := by cases hh : wayB c.t d.t; exact absurd hh hw; rfl
            have hF := turn_forms (col_types h1) (col_types h2) hwt ht
            have hkc := fit_kind hf hk
            have hB := turn_back hkc hv (fit_chk0 hf) hF
            have hxk := turn_kind hkc hF
            have hx0 : ¬ x.k = 0 := by have := col_types h2; omega
            rw [e]
            refine ⟨?_, turn_ok hv hF⟩
            show cvO d c x = _
            unfold cvO
            rw [if_neg hdc, if_neg (by rw [hg]; simp), if_neg hw', if_neg hx0, hB]
            exact if_pos hf
          · unfold cvO at h
            rw [if_neg hcd, if_neg (by rw [hf]; simp), if_neg hw, if_neg hk, ht] at h
            replace h : (if fitN d x = 0 then ((0 : Int), x) else ((161 : Int), v0N)).1 = 0 := h
            rw [if_neg hg] at h
            cases h
  · unfold cvO at h; rw [if_neg hcd, if_pos hf] at h; exact absurd h hf
theorem cv_one {c d : Col} {v w : Vl} (hv : v.ok) (hw : w.ok) (h : (cvO c d v).1 = 0) (k : (cvO c d w).1 = 0) (he : (cvO c d v).2 = (cvO c d w).2) : v = w := by
  have h1 := (cv_back hv h).1
  have h2 := (cv_back hw k).1
  rw [he, h2] at h1
  injection h1 with _ h1
  exact h1.symm
end Go.Proofs.YtmgeefhacnadcaaGreatDoor
namespace Go.Proofs.YtmgeefhacnadcaaGreatDoor
open Go.RowKit

theorem emptyZ6 : ((⟨#[]⟩ : ByteArray).size : Int) = 0 := rfl
theorem chk6_i (i : Int) : (⟨1, i, 0, ⟨#[]⟩⟩ : Vl).chk = 0 := by simp [Vl.chk, chk, vEqB, onlyI, onlyU, onlyS, emptyZ6]
theorem chk6_u (u : Int) : (⟨2, 0, u, ⟨#[]⟩⟩ : Vl).chk = 0 := by simp [Vl.chk, chk, vEqB, onlyI, onlyU, onlyS, emptyZ6]
theorem chk6_s (s : ByteArray) (h : (s.size : Int) ≤ 200) : (⟨4, 0, 0, s⟩ : Vl).chk = 0 := by simp [Vl.chk, chk, vEqB, onlyI, onlyU, onlyS, h]
theorem fit6_ok {d : Col} {x : Vl} (hc : x.chk = 0) (hk : x.k = d.t) (h0 : x.k ≠ 0) (hb : bnd d.t d.z x = true) : fitN d x = 0 := by
  unfold fitN
  rw [if_neg (by rw [hc]; simp), if_neg h0, if_neg (by rw [hk]; simp), if_pos hb]
theorem fit_bnd {c : Col} {v : Vl} (hf : fitN c v = 0) (hk : v.k ≠ 0) : bnd c.t c.z v = true := by
  have h2 := fit_kind hf hk
  have h1 := fit_chk0 hf
  unfold fitN at hf
  rw [if_neg (by rw [h1]; simp), if_neg hk, if_neg (by rw [h2]; simp)] at hf
  cases h : bnd c.t c.z v
  · rw [h] at hf; cases hf
  · rfl
theorem itoa_fit {z i : Int} (hz : numSz z = true) (h0 : leastI z ≤ i) (h1 : i ≤ mostI z) : ((⟨(Lib.itoa i).toArray⟩ : ByteArray).size : Int) ≤ digN 1 z := by
  have e : (⟨(Lib.itoa i).toArray⟩ : ByteArray).size = (Lib.itoa i).length := by simp [ByteArray.size]
  rw [e]
  have key : ∀ k : Nat, 1 ≤ k → i.natAbs < 10 ^ k → (Lib.itoa i).length ≤ k + 1 := fun k hk h => by
    unfold Lib.itoa
    by_cases hn : i < 0
    · rw [if_pos hn, List.length_cons]
      have := dec_len hk h
      omega
    · rw [if_neg hn]
      have := dec_len (k := k) (u := i.toNat) hk (by rw [show i.toNat = i.natAbs by omega]; exact h)
      omega
  rcases numSz_cases hz with rfl | rfl | rfl | rfl
  · have h0 : -128 ≤ i := h0
    have h1 : i ≤ 127 := h1
    have := key 3 (by decide) (by omega)
    show _ ≤ (4 : Int)
    omega
  · have h0 : -32768 ≤ i := h0
    have h1 : i ≤ 32767 := h1
    have := key 5 (by decide) (by omega)
    show _ ≤ (6 : Int)
    omega
  · have h0 : -2147483648 ≤ i := h0
    have h1 : i ≤ 2147483647 := h1
    have := key 10 (by decide) (by omega)
    show _ ≤ (11 : Int)
    omega
  · have h0 : -9223372036854775808 ≤ i := h0
    have h1 : i ≤ 9223372036854775807 := h1
    have := key 19 (by decide) (by omega)
    show _ ≤ (20 : Int)
    omega
theorem dec_fit {z u : Int} (hz : numSz z = true) (h0 : 0 ≤ u) (h1 : u ≤ mostU z) : ((⟨(Lib.decDigits u.toNat).toArray⟩ : ByteArray).size : Int) ≤ digN 2 z := by
  have e : (⟨(Lib.decDigits u.toNat).toArray⟩ : ByteArray).size = (Lib.decDigits u.toNat).length := by simp [ByteArray.size]
  rw [e]
  rcases numSz_cases hz with rfl | rfl | rfl | rfl
  · have h1 : u ≤ 255 := h1
    have := dec_len (k := 3) (u := u.toNat) (by decide) (by omega)
    show _ ≤ (3 : Int)
    omega
  · have h1 : u ≤ 65535 := h1
    have := dec_len (k := 5) (u := u.toNat) (by decide) (by omega)
    show _ ≤ (5 : Int)
    omega
  · have h1 : u ≤ 4294967295 := h1
    have := dec_len (k := 10) (u := u.toNat) (by decide) (by omega)
    show _ ≤ (10 : Int)
    omega
  · have h1 : u ≤ 18446744073709551615 := h1
    have := dec_len (k := 20) (u := u.toNat) (by decide) (by omega)
    show _ ≤ (20 : Int)
    omega
theorem most_up {z y : Int} (hz : numSz z = true) (hy : numSz y = true) (h : z ≤ y) : leastI y ≤ leastI z ∧ mostI z ≤ mostI y ∧ mostU z ≤ mostU y := by
  rcases numSz_cases hz with rfl | rfl | rfl | rfl <;> rcases numSz_cases hy with rfl | rfl | rfl | rfl <;> first | (exact ⟨by decide, by decide, by decide⟩) | (exfalso; omega)
theorem most_u {z y : Int} (hz : numSz z = true) (hy : numSz y = true) (h : z < y) : mostU z ≤ mostI y := by
  rcases numSz_cases hz with rfl | rfl | rfl | rfl <;> rcases numSz_cases hy with rfl | rfl | rfl | rfl <;> first | decide | (exfalso; omega)
theorem bounds_in {z : Int} (hz : numSz z = true) : leastI z ≤ 0 ∧ 1 ≤ mostI z ∧ 1 ≤ mostU z := by
  rcases numSz_cases hz with rfl | rfl | rfl | rfl <;> exact ⟨by decide, by decide, by decide⟩
theorem digN_le {t z : Int} : digN t z ≤ 20 := by
  unfold digN
  repeat' split
  all_goals decide
/-- what a sure way makes of a value that fits -/
theorem sure_turn {c d : Col} {v : Vl} (h1 : colOk c = true) (h2 : colOk d = true) (hv : v.ok) (hf : fitN c v = 0) (hk : v.k ≠ 0) (hs : sgB c.t d.t c.z d.z = true) (hw : wayB c.t d.t = true) : ∃ x, turnO c.t d.t v = some x ∧ fitN d x = 0 := by
  have hb := fit_bnd hf hk
  have hkc := fit_kind hf hk
  have hc := fit_chk0 hf
  have hzc := col_num h1
  have hzd := col_num h2
  obtain ⟨i0, i1, u0, u1, z⟩ := hv
  obtain ⟨cn, ct, cz, cu⟩ := c
  obtain ⟨dn, dt, dz, du⟩ := d
  have hf0 := chk_forms hc
  have ha : ct = 1 ∨ ct = 2 ∨ ct = 3 ∨ ct = 4 := col_types h1
  have hb' : dt = 1 ∨ dt = 2 ∨ dt = 3 ∨ dt = 4 := col_types h2
  rcases ha with rfl | rfl | rfl | rfl <;> rcases hb' with rfl | rfl | rfl | rfl
  · have hs : cz ≤ dz := of_decide_eq_true hs
    have hm := most_up (hzc (.inl rfl)) (hzd (.inl rfl)) hs
    refine ⟨v, rfl, fit6_ok hc hkc hk ?_⟩
    have hb : (decide (leastI cz ≤ v.i) && decide (v.i ≤ mostI cz)) = true := hb
    show (decide (leastI dz ≤ v.i) && decide (v.i ≤ mostI dz)) = true
    simp only [Bool.and_eq_true, decide_eq_true_eq] at hb ⊢
    dsimp only at hm
    omega
  · cases hs
  · cases hs
  · have hs : digN 1 cz ≤ dz := of_decide_eq_true hs
    have hb : (decide (leastI cz ≤ v.i) && decide (v.i ≤ mostI cz)) = true := hb
    simp only [Bool.and_eq_true, decide_eq_true_eq] at hb
    have hl := itoa_fit (hzc (.inl rfl)) hb.1 hb.2
    have hd := digN_le (t := 1) (z := cz)
    dsimp only at hl
    exact ⟨⟨4, 0, 0, ⟨(Lib.itoa v.i).toArray⟩⟩, rfl, fit6_ok (chk6_s _ (by omega)) rfl (show (4 : Int) ≠ 0 by decide) (show decide (((⟨(Lib.itoa v.i).toArray⟩ : ByteArray).size : Int) ≤ dz) = true from decide_eq_true (by omega))⟩
  · have hs : cz < dz := of_decide_eq_true hs
    have hb : decide (v.u ≤ mostU cz) = true := hb
    have hb := of_decide_eq_true hb
    have hm := most_u (hzc (.inr rfl)) (hzd (.inl rfl)) hs
    have hin := bounds_in (hzd (.inl rfl))
    have hmx : mostI dz ≤ 9223372036854775807 := by rcases numSz_cases (hzd (.inl rfl)) with h | h | h | h <;> (have h : dz = _ := h; subst h; decide)
    dsimp only at hm hin
    refine ⟨⟨1, v.u, 0, ⟨#[]⟩⟩, show (if v.u ≤ 9223372036854775807 then some (⟨1, v.u, 0, ⟨#[]⟩⟩ : Vl) else none) = _ from if_pos (by omega), fit6_ok (chk6_i _) rfl (show (1 : Int) ≠ 0 by decide) ?_⟩
    show (decide (leastI dz ≤ v.u) && decide (v.u ≤ mostI dz)) = true
    simp only [Bool.and_eq_true, decide_eq_true_eq]
    omega
  · have hs : cz ≤ dz := of_decide_eq_true hs
    have hm := most_up (hzc (.inr rfl)) (hzd (.inr rfl)) hs
    refine ⟨v, rfl, fit6_ok hc hkc hk ?_⟩
    have hb : decide (v.u ≤ mostU cz) = true := hb
    show decide (v.u ≤ mostU dz) = true
    simp only [decide_eq_true_eq] at hb ⊢
    dsimp only at hm
    omega
  · cases hs
  · have hs : digN 2 cz ≤ dz := of_decide_eq_true hs
    have hb : decide (v.u ≤ mostU cz) = true := hb
    have hl := dec_fit (hzc (.inr rfl)) u0 (of_decide_eq_true hb)
    have hd := digN_le (t := 2) (z := cz)
    dsimp only at hl
    exact ⟨⟨4, 0, 0, ⟨(Lib.decDigits v.u.toNat).toArray⟩⟩, rfl, fit6_ok (chk6_s _ (by omega)) rfl (show (4 : Int) ≠ 0 by decide) (show decide (((⟨(Lib.decDigits v.u.toNat).toArray⟩ : ByteArray).size : Int) ≤ dz) = true from decide_eq_true (by omega))⟩
  · have hin := bounds_in (hzd (.inl rfl))
    have hi : v.i = 0 ∨ v.i = 1 := by rcases hf0 with rfl | ⟨i, rfl⟩ | ⟨u, rfl⟩ | rfl | rfl | ⟨s, rfl, _⟩ <;> first | exact .inl rfl | exact .inr rfl | cases hkc
    dsimp only at hin
    refine ⟨⟨1, v.i, 0, ⟨#[]⟩⟩, rfl, fit6_ok (chk6_i _) rfl (show (1 : Int) ≠ 0 by decide) ?_⟩
    show (decide (leastI dz ≤ v.i) && decide (v.i ≤ mostI dz)) = true
    simp only [Bool.and_eq_true, decide_eq_true_eq]
    omega
  · have hin := bounds_in (hzd (.inr rfl))
    have hi : v.i = 0 ∨ v.i = 1 := by rcases hf0 with rfl | ⟨i, rfl⟩ | ⟨u, rfl⟩ | rfl | rfl | ⟨s, rfl, _⟩ <;> first | exact .inl rfl | exact .inr rfl | cases hkc
    dsimp only at hin
    refine ⟨⟨2, 0, v.i, ⟨#[]⟩⟩, show (if 0 ≤ v.i then some (⟨2, 0, v.i, ⟨#[]⟩⟩ : Vl) else none) = _ from if_pos (by omega), fit6_ok (chk6_u _) rfl (show (2 : Int) ≠ 0 by decide) ?_⟩
    show decide (v.i ≤ mostU dz) = true
    simp only [decide_eq_true_eq]
    omega
  · exact ⟨v, rfl, fit6_ok hc hkc hk rfl⟩
  · cases hw
  · cases hs
  · cases hs
  · cases hw
  · have hs : cz ≤ dz := of_decide_eq_true hs
    refine ⟨v, rfl, fit6_ok hc hkc hk ?_⟩
    have hb : decide ((v.s.size : Int) ≤ cz) = true := hb
    show decide ((v.s.size : Int) ≤ dz) = true
    simp only [decide_eq_true_eq] at hb ⊢
    omega
theorem fits_fit {c : Col} {v : Vl} (h : colOk c = true) (hf : fitsN c v = 0) : fitN c v = 0 := by
  rw [← hf]
  unfold fitsN
  rw [if_pos h]
theorem cv_sure {c d : Col} {v : Vl} (hv : v.ok) (h0 : (sureO c d).1 = 0) (hs : (sureO c d).2 = true) (hf : fitsN c v = 0) : (cvO c d v).1 = 0 := by
  cases h1 : colOk c
  · unfold sureO at h0; rw [if_pos (.inl h1)] at h0; cases h0
  cases h2 : colOk d
  · unfold sureO at h0; rw [if_pos (.inr h2)] at h0; cases h0
  have hcd : ¬ (colOk c = false ∨ colOk d = false) := by rw [h1, h2]; simp
  unfold sureO at hs
  rw [if_neg hcd] at hs
  replace hs : (wayB c.t d.t && ((d.u || !c.u) && sgB c.t d.t c.z d.z)) = true := hs
  simp only [Bool.and_eq_true, Bool.or_eq_true, Bool.not_eq_true'] at hs
  obtain ⟨hw, hu, hg⟩ := hs
  have hf := fits_fit h1 hf
  unfold cvO
  rw [if_neg hcd, if_neg (by rw [hf]; simp), if_neg (by rw [hw]; simp)]
  by_cases hk : v.k = 0
  · have hc := fit_chk0 hf
    have hcu : c.u = true := by
      unfold fitN at hf
      rw [if_neg (by rw [hc]; simp), if_pos hk] at hf
      cases h : c.u
      · rw [h] at hf; cases hf
      · rfl
    have hdu : d.u = true := by
      rcases hu with hu | hu
      · exact hu
      · rw [hcu] at hu; cases hu
    have : fitN d v = 0 := by
      unfold fitN
      rw [if_neg (by rw [hc]; simp), if_pos hk, if_pos hdu]
    rw [if_pos hk, if_pos this]
  · obtain ⟨x, hx, hfx⟩ := sure_turn h1 h2 hv hf hk hg hw
    rw [if_neg hk, hx]
    show (if fitN d x = 0 then ((0 : Int), x) else ((161 : Int), v0N)).1 = 0
    rw [if_pos hfx]
end Go.Proofs.YtmgeefhacnadcaaGreatDoor
