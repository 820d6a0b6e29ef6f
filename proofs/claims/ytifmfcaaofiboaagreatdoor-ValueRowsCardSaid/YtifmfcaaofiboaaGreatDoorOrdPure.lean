/-
  The order of values is one; no two values have the same text.
-/
import Derived.Test.YtifmfcaaofiboaaGreatDoorTextRead
import Derived.Test.YtifmfcaaofiboaaGreatDoorOrder
import Derived.Test.YtifmfcaaofiboaaGreatDoorRow
namespace Go.Proofs.YtifmfcaaofiboaaGreatDoor
open Go.RowKit

theorem cmpI_anti (a b : Int) : cmpI a b = -cmpI b a := by unfold cmpI; split <;> (try split) <;> (try split) <;> omega
theorem cmpI_zero {a b : Int} : cmpI a b = 0 ↔ a = b := by unfold cmpI; constructor <;> intro h <;> (try split at h) <;> (try split at h) <;> (try split) <;> (try split) <;> omega
theorem less_anti : ∀ (a b : List UInt8), Op.bytesLess a b = true → Op.bytesLess b a = false
  | [], [], h => by simp [Op.bytesLess] at h
  | [], _ :: _, _ => by simp [Op.bytesLess]
  | _ :: _, [], h => by simp [Op.bytesLess] at h
  | a :: x, b :: y, h => by
    simp only [Op.bytesLess, Bool.or_eq_true, Bool.and_eq_true, decide_eq_true_eq, beq_iff_eq] at h
    simp only [Op.bytesLess, Bool.or_eq_false_iff, Bool.and_eq_false_iff, decide_eq_false_iff_not, beq_eq_false_iff_ne]
    rcases h with h | ⟨rfl, h⟩
    · refine ⟨?_, .inl ?_⟩
      · intro h'; rw [UInt8.lt_iff_toNat_lt] at h h'; omega
      · rintro rfl; rw [UInt8.lt_iff_toNat_lt] at h; omega
    · refine ⟨?_, .inr (less_anti x y h)⟩
      intro h'; rw [UInt8.lt_iff_toNat_lt] at h'; omega
theorem less_total : ∀ (a b : List UInt8), Op.bytesLess a b = false → Op.bytesLess b a = false → a = b
  | [], [], _, _ => rfl
  | [], _ :: _, h, _ => by simp [Op.bytesLess] at h
  | _ :: _, [], _, h => by simp [Op.bytesLess] at h
  | a :: x, b :: y, h, h' => by
    simp only [Op.bytesLess, Bool.or_eq_false_iff, Bool.and_eq_false_iff, decide_eq_false_iff_not, beq_eq_false_iff_ne] at h h'
    have he : a = b := by
      apply UInt8.toNat_inj.1
      have h1 := h.1
      have h2 := h'.1
      rw [UInt8.lt_iff_toNat_lt] at h1 h2
      omega
    subst he
    rw [less_total x y (h.2.resolve_left (fun e => e rfl)) (h'.2.resolve_left (fun e => e rfl))]
theorem less_trans : ∀ (a b c : List UInt8), Op.bytesLess a b = true → Op.bytesLess b c = true → Op.bytesLess a c = true
  | _, [], _, h, _ => by simp [Op.bytesLess] at h
  | _, _ :: _, [], _, h => by simp [Op.bytesLess] at h
  | [], _ :: _, _ :: _, _, _ => by simp [Op.bytesLess]
  | a :: x, b :: y, c :: z, h, h' => by
    simp only [Op.bytesLess, Bool.or_eq_true, Bool.and_eq_true, decide_eq_true_eq, beq_iff_eq, UInt8.lt_iff_toNat_lt] at h h' ⊢
    rcases h with h | ⟨rfl, h⟩ <;> rcases h' with h' | ⟨rfl, h'⟩
    · exact .inl (by omega)
    · exact .inl h
    · exact .inl h'
    · exact .inr ⟨rfl, less_trans x y z h h'⟩
theorem less_self (a : List UInt8) : Op.bytesLess a a = false := by
  cases h : Op.bytesLess a a
  · rfl
  · have := less_anti a a h; rw [h] at this; cases this
theorem cmpS_cases (s t : ByteArray) : (cmpS s t = -1 ∧ Op.bytesLess s.toList t.toList = true) ∨ (cmpS s t = 0 ∧ s.toList = t.toList) ∨ (cmpS s t = 1 ∧ Op.bytesLess t.toList s.toList = true) := by
  unfold cmpS
  cases h1 : Op.bytesLess s.toList t.toList
  · by_cases h2 : s.toList = t.toList
    · exact .inr (.inl ⟨by simp [h2], h2⟩)
    · refine .inr (.inr ⟨by simp [h2], ?_⟩)
      cases h3 : Op.bytesLess t.toList s.toList
      · exact absurd (less_total _ _ h1 h3) h2
      · rfl
  · exact .inl ⟨by simp, rfl⟩
theorem cmpS_anti (s t : ByteArray) : cmpS s t = -cmpS t s := by
  rcases cmpS_cases s t with ⟨h1, h2⟩ | ⟨h1, h2⟩ | ⟨h1, h2⟩ <;> rcases cmpS_cases t s with ⟨h3, h4⟩ | ⟨h3, h4⟩ | ⟨h3, h4⟩ <;> rw [h1, h3] <;> first
    | rfl
    | (exfalso; rw [less_anti _ _ h2] at h4; cases h4)
    | (exfalso; rw [h4, less_self] at h2; cases h2)
    | (exfalso; rw [h2, less_self] at h4; cases h4)
theorem cmpS_zero {s t : ByteArray} : cmpS s t = 0 ↔ s.toList = t.toList := by
  rcases cmpS_cases s t with ⟨h1, h2⟩ | ⟨h1, h2⟩ | ⟨h1, h2⟩
  · exact ⟨fun h => by omega, fun h => by rw [h, less_self] at h2; cases h2⟩
  · exact ⟨fun _ => h2, fun _ => h1⟩
  · exact ⟨fun h => by omega, fun h => by rw [h, less_self] at h2; cases h2⟩
theorem cmpS_trans {s t r : ByteArray} (h : cmpS s t = -1) (h' : cmpS t r = -1) : cmpS s r = -1 := by
  rcases cmpS_cases s t with ⟨_, h2⟩ | ⟨h1, _⟩ | ⟨h1, _⟩ <;> (try omega)
  rcases cmpS_cases t r with ⟨_, h4⟩ | ⟨h3, _⟩ | ⟨h3, _⟩ <;> (try omega)
  have h5 := less_trans _ _ _ h2 h4
  rcases cmpS_cases s r with ⟨h6, _⟩ | ⟨_, h7⟩ | ⟨_, h7⟩
  · exact h6
  · rw [h7, less_self] at h5; cases h5
  · rw [less_anti _ _ h5] at h7; cases h7
theorem cmpS_range (s t : ByteArray) : cmpS s t = -1 ∨ cmpS s t = 0 ∨ cmpS s t = 1 := by
  rcases cmpS_cases s t with ⟨h, _⟩ | ⟨h, _⟩ | ⟨h, _⟩ <;> simp [h]
theorem cmpI_lt' {a b : Int} : cmpI a b = -1 ↔ a < b := by unfold cmpI; constructor <;> intro h <;> (try split at h) <;> (try split at h) <;> (try split) <;> (try split) <;> omega
theorem cmpI_range (a b : Int) : cmpI a b = -1 ∨ cmpI a b = 0 ∨ cmpI a b = 1 := by unfold cmpI; split <;> (try split) <;> simp

theorem ord_anti (x y : Vl) : x.ord y = -y.ord x := by
  unfold Vl.ord ord or4
  rw [cmpI_anti x.k y.k, cmpI_anti x.i y.i, cmpI_anti x.u y.u, cmpS_anti x.s y.s]
  repeat' split
  all_goals omega
theorem ord_zero (x y : Vl) : x.ord y = 0 ↔ (x.k = y.k ∧ x.i = y.i ∧ x.u = y.u ∧ x.s.toList = y.s.toList) := by
  unfold Vl.ord ord or4
  rw [← cmpI_zero (a := x.k), ← cmpI_zero (a := x.i), ← cmpI_zero (a := x.u), ← cmpS_zero]
  constructor
  · intro h
    repeat' split at h
    all_goals omega
  · rintro ⟨h1, h2, h3, h4⟩
    simp [h1, h2, h3, h4]
theorem ord_eqB (x y : Vl) : (x.ord y == 0) = vEqB x.k x.i x.u x.s y.k y.i y.u y.s := by
  unfold vEqB
  by_cases h : x.ord y = 0
  · have := (ord_zero x y).1 h
    simp [h, this]
  · have h' := fun e => h ((ord_zero x y).2 e)
    rw [beq_eq_false_iff_ne.2 h]
    symm
    rw [Bool.eq_false_iff]
    intro e
    simp only [Bool.and_eq_true, beq_iff_eq] at e
    exact h' e
theorem or4_lt {a b c d : Int} (ha : a = -1 ∨ a = 0 ∨ a = 1) (hb : b = -1 ∨ b = 0 ∨ b = 1) (hc : c = -1 ∨ c = 0 ∨ c = 1) (hd : d = -1 ∨ d = 0 ∨ d = 1) :
    or4 a b c d = -1 ∨ or4 a b c d = 0 ∨ or4 a b c d = 1 := by
  unfold or4
  repeat' split
  all_goals assumption
theorem ord_range (x y : Vl) : x.ord y = -1 ∨ x.ord y = 0 ∨ x.ord y = 1 := or4_lt (cmpI_range _ _) (cmpI_range _ _) (cmpI_range _ _) (cmpS_range _ _)
theorem ord_lt (x y : Vl) : x.ord y = -1 ↔ (x.k < y.k ∨ (x.k = y.k ∧ (x.i < y.i ∨ (x.i = y.i ∧ (x.u < y.u ∨ (x.u = y.u ∧ cmpS x.s y.s = -1)))))) := by
  unfold Vl.ord ord or4
  have h1 := cmpI_lt' (a := x.k) (b := y.k)
  have h2 := cmpI_lt' (a := x.i) (b := y.i)
  have h3 := cmpI_lt' (a := x.u) (b := y.u)
  have z1 := cmpI_zero (a := x.k) (b := y.k)
  have z2 := cmpI_zero (a := x.i) (b := y.i)
  have z3 := cmpI_zero (a := x.u) (b := y.u)
  have hr := cmpS_range x.s y.s
  repeat' split
  all_goals omega
theorem ord_lt_trans (x y z : Vl) (h : x.ord y = -1) (h' : y.ord z = -1) : x.ord z = -1 := by
  rw [ord_lt] at h h' ⊢
  have hs := fun a b => cmpS_trans (s := x.s) (t := y.s) (r := z.s) a b
  rcases h with h | ⟨h1, h | ⟨h2, h | ⟨h3, h⟩⟩⟩ <;> rcases h' with h' | ⟨h1', h' | ⟨h2', h' | ⟨h3', h'⟩⟩⟩ <;> first
    | (refine .inl ?_; omega)
    | (refine .inr ⟨by omega, .inl ?_⟩; omega)
    | (refine .inr ⟨by omega, .inr ⟨by omega, .inl ?_⟩⟩; omega)
    | (refine .inr ⟨by omega, .inr ⟨by omega, .inr ⟨by omega, hs h h'⟩⟩⟩)
theorem vl_eq {x y : Vl} (h : x.ord y = 0) : x = y := by
  obtain ⟨h1, h2, h3, h4⟩ := (ord_zero x y).1 h
  cases x
  cases y
  simp only at h1 h2 h3 h4
  have := ba_ext h4
  subst h1 h2 h3 this
  rfl
/-- The order is one. -/
theorem ord_trans (x y z : Vl) (h : x.ord y ≤ 0) (h' : y.ord z ≤ 0) : x.ord z ≤ 0 := by
  rcases ord_range x y with h1 | h1 | h1 <;> rcases ord_range y z with h2 | h2 | h2 <;> (try omega)
  · rw [ord_lt_trans x y z h1 h2]; decide
  · rw [← vl_eq h2]; omega
  · rw [vl_eq h1]; omega
  · rw [vl_eq h1]; omega

/-- No two values have the same text. -/
theorem txt_eqB {x y : Vl} (hx : x.chk = 0) (hy : y.chk = 0) (ox : x.ok) (oy : y.ok) : (x.txt.toList == y.txt.toList) = vEqB x.k x.i x.u x.s y.k y.i y.u y.s := by
  rw [← ord_eqB]
  by_cases h : x.ord y = 0
  · have := vl_eq h
    subst this
    simp [h]
  · rw [beq_eq_false_iff_ne.2 h, beq_eq_false_iff_ne]
    intro he
    have r1 : readOf x.txt.data.toList = _ := text_read hx ox
    have r2 : readOf y.txt.data.toList = _ := text_read hy oy
    rw [ba_ext he] at r1
    rw [r1] at r2
    simp only [Rd.mk.injEq] at r2
    apply h
    rw [ord_zero]
    exact ⟨r2.1, r2.2.1, r2.2.2.1, by rw [r2.2.2.2.1]⟩
end Go.Proofs.YtifmfcaaofiboaaGreatDoor
