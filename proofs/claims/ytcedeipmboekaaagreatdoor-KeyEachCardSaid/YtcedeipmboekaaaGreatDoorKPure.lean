/-
  Keys' bytes, as lists of bytes, and their order: pure facts, no walk.
-/
import Derived.Test.YtcedeipmboekaaaGreatDoorVOrdP
import Derived.Test.YtcedeipmboekaaaGreatDoorOctA
namespace Go.Proofs.YtcedeipmboekaaaGreatDoor
open Go.RowKit

/-- a is below b at a place that both have -/
def SL (a b : List UInt8) : Prop := ∃ p x y q r, a = p ++ x :: q ∧ b = p ++ y :: r ∧ x < y
theorem SL.app {a b : List UInt8} (h : SL a b) (m n : List UInt8) : SL (a ++ m) (b ++ n) := by
  obtain ⟨p, x, y, q, r, rfl, rfl, hl⟩ := h
  exact ⟨p, x, y, q ++ m, r ++ n, by simp, by simp, hl⟩
theorem SL.pre {a b : List UInt8} (h : SL a b) (c : List UInt8) : SL (c ++ a) (c ++ b) := by
  obtain ⟨p, x, y, q, r, rfl, rfl, hl⟩ := h
  exact ⟨c ++ p, x, y, q, r, by simp, by simp, hl⟩
theorem SL.less {a b : List UInt8} (h : SL a b) : Op.bytesLess a b = true := by
  obtain ⟨p, x, y, q, r, rfl, rfl, hl⟩ := h
  induction p with
  | nil => rw [List.nil_append, List.nil_append, bytesLess_cons]; simp [hl]
  | cons c p ih => rw [List.cons_append, List.cons_append, bytesLess_cons, ih]; simp
theorem less_pre (a : List UInt8) (x : UInt8) (r : List UInt8) : Op.bytesLess a (a ++ x :: r) = true := by
  induction a with
  | nil => rfl
  | cons c a ih => rw [List.cons_append, bytesLess_cons, ih]; simp
theorem less_forms : ∀ (a b : List UInt8), Op.bytesLess a b = true → SL a b ∨ ∃ x r, b = a ++ x :: r
  | [], [], h => by simp [Op.bytesLess] at h
  | _ :: _, [], h => by simp [Op.bytesLess] at h
  | [], y :: r, _ => .inr ⟨y, r, rfl⟩
  | x :: a, y :: b, h => by
    rw [bytesLess_cons, Bool.or_eq_true, Bool.and_eq_true, decide_eq_true_eq, beq_iff_eq] at h
    rcases h with h | ⟨rfl, h⟩
    · exact .inl ⟨[], x, y, a, b, rfl, rfl, h⟩
    · rcases less_forms a b h with h | ⟨z, r, rfl⟩
      · exact .inl (h.pre [x])
      · exact .inr ⟨z, r, rfl⟩
theorem less_sl {a b : List UInt8} (h : Op.bytesLess a b = true) (hn : ∀ x r, b ≠ a ++ x :: r) : SL a b :=
  (less_forms a b h).resolve_right fun ⟨x, r, e⟩ => hn x r e
theorem less_sl_len {a b : List UInt8} (h : Op.bytesLess a b = true) (hl : b.length ≤ a.length) : SL a b :=
  less_sl h fun x r e => by rw [e] at hl; simp at hl; omega
theorem sl_irrefl (a : List UInt8) : ¬ SL a a := fun h => by
  have := h.less
  rw [less_self] at this
  cases this

/-- the last group of bytes -/
def lastG (s : List UInt8) : List UInt8 := s ++ (List.replicate (8 - s.length) 0 ++ [UInt8.ofNat s.length])
def grpF : Nat → List UInt8 → List UInt8
  | 0, s => lastG s
  | k + 1, s => if s.length ≤ 8 then lastG s else s.take 8 ++ 9 :: grpF k (s.drop 8)
/-- the groups of bytes -/
def grpB (s : List UInt8) : List UInt8 := grpF s.length s
theorem grpF_small (k : Nat) {s : List UInt8} (h : s.length ≤ 8) : grpF k s = lastG s := by
  cases k with
  | zero => rfl
  | succ k => show (if s.length ≤ 8 then lastG s else _) = _; rw [if_pos h]
theorem grpF_fuel : ∀ (k j : Nat) (s : List UInt8), s.length ≤ 8 * (k + 1) → s.length ≤ 8 * (j + 1) → grpF k s = grpF j s
  | 0, j, s, h, _ => by rw [grpF_small 0 (by omega), grpF_small j (by omega)]
  | k + 1, 0, s, _, h => by rw [grpF_small 0 (by omega), grpF_small _ (by omega)]
  | k + 1, j + 1, s, h, h' => by
    by_cases h8 : s.length ≤ 8
    · rw [grpF_small _ h8, grpF_small _ h8]
    · show (if s.length ≤ 8 then lastG s else s.take 8 ++ 9 :: grpF k (s.drop 8)) = (if s.length ≤ 8 then lastG s else s.take 8 ++ 9 :: grpF j (s.drop 8))
      rw [if_neg h8, if_neg h8, grpF_fuel k j (s.drop 8) (by rw [List.length_drop]; omega) (by rw [List.length_drop]; omega)]
theorem grpB_small {s : List UInt8} (h : s.length ≤ 8) : grpB s = lastG s := grpF_small _ h
theorem grpB_more {s : List UInt8} (h : 8 < s.length) : grpB s = s.take 8 ++ 9 :: grpB (s.drop 8) := by
  unfold grpB
  obtain ⟨n, hn⟩ : ∃ n, s.length = n + 1 := ⟨s.length - 1, by omega⟩
  rw [hn]
  show (if s.length ≤ 8 then lastG s else s.take 8 ++ 9 :: grpF n (s.drop 8)) = _
  rw [if_neg (by omega), grpF_fuel n (s.drop 8).length (s.drop 8) (by rw [List.length_drop]; omega) (by omega)]
theorem grpB_head (s : List UInt8) : ∃ m, grpB s = s.take 8 ++ m := by
  by_cases h : s.length ≤ 8
  · exact ⟨_, by rw [grpB_small h, List.take_of_length_le h]; rfl⟩
  · exact ⟨_, grpB_more (by omega)⟩

theorem zeros_le : ∀ (r : List UInt8), List.replicate r.length 0 = r ∨ SL (List.replicate r.length 0) r
  | [] => .inl rfl
  | x :: r => by
    by_cases hx : x = 0
    · subst hx
      rcases zeros_le r with h | h
      · exact .inl (by rw [List.length_cons, List.replicate_succ, h])
      · exact .inr (by rw [List.length_cons, List.replicate_succ]; exact h.pre [0])
    · refine .inr ⟨[], 0, x, List.replicate r.length 0, r, ?_, rfl, ?_⟩
      · rw [List.length_cons, List.replicate_succ]; rfl
      · rw [UInt8.lt_iff_toNat_lt]
        have : x.toNat ≠ 0 := fun e => hx (UInt8.toNat_inj.1 e)
        show 0 < x.toNat
        omega
theorem cnt_lt {m n : Nat} (h : m < n) (hn : n ≤ 9) : UInt8.ofNat m < UInt8.ofNat n := by
  rw [UInt8.lt_iff_toNat_lt, UInt8.toNat_ofNat', UInt8.toNat_ofNat']
  omega
theorem sl_one {x y : UInt8} (h : x < y) (q r : List UInt8) : SL (x :: q) (y :: r) := ⟨[], x, y, q, r, rfl, rfl, h⟩

theorem grp_sl : ∀ (n : Nat) (s t : List UInt8), s.length ≤ n → Op.bytesLess s t = true → SL (grpB s) (grpB t) := by
  intro n
  induction n with
  | zero =>
    intro s t hn h
    obtain rfl : s = [] := List.eq_nil_of_length_eq_zero (by omega)
    rcases less_forms [] t h with ⟨p, x, y, q, r, e, _, _⟩ | ⟨y, r, rfl⟩
    · simp at e
    · rw [grpB_small (s := []) (by simp)]
      by_cases ht : ([] ++ y :: r).length ≤ 8
      · rw [grpB_small ht]
        have hz := zeros_le (y :: r)
        have hs : List.replicate 8 (0 : UInt8) = List.replicate (y :: r).length 0 ++ List.replicate (8 - (y :: r).length) 0 := by rw [List.replicate_append_replicate]; congr 1; simp at ht ⊢; omega
        show SL (List.replicate 8 0 ++ [UInt8.ofNat 0]) ((y :: r) ++ (List.replicate (8 - (y :: r).length) 0 ++ [UInt8.ofNat (y :: r).length]))
        rw [hs, List.append_assoc]
        rcases hz with hz | hz
        · rw [hz]
          exact ((sl_one (cnt_lt (by simp) (by simp at ht ⊢; omega)) [] []).pre _).pre _
        · exact hz.app _ _
      · rw [grpB_more (by omega)]
        have hl : (([] ++ y :: r : List UInt8).take 8).length = 8 := by rw [List.length_take]; omega
        have hz := zeros_le (([] ++ y :: r : List UInt8).take 8)
        rw [hl] at hz
        show SL (List.replicate 8 0 ++ [UInt8.ofNat 0]) _
        rcases hz with hz | hz
        · rw [← hz]
          exact (sl_one (by decide) _ _).pre _
        · exact hz.app _ _
  | succ n ih =>
    intro s t hn h
    rcases less_forms s t h with ⟨p, x, y, q, r, rfl, rfl, hl⟩ | ⟨y, r, rfl⟩
    · by_cases hp : p.length < 8
      · obtain ⟨m1, e1⟩ := grpB_head (p ++ x :: q)
        obtain ⟨m2, e2⟩ := grpB_head (p ++ y :: r)
        obtain ⟨d, hd⟩ : ∃ d, 8 - p.length = d + 1 := ⟨7 - p.length, by omega⟩
        rw [e1, e2, List.take_append, List.take_append, List.take_of_length_le (by omega), hd, List.take_succ_cons, List.take_succ_cons]
        exact ((sl_one hl _ _).pre p).app _ _
      · have h8 : 8 ≤ p.length := by omega
        rw [grpB_more (s := p ++ x :: q) (by simp; omega), grpB_more (s := p ++ y :: r) (by simp; omega), List.take_append_of_le_length h8, List.take_append_of_le_length h8, List.drop_append_of_le_length h8, List.drop_append_of_le_length h8]
        refine SL.pre ?_ _
        refine SL.pre (c := [9]) ?_
        exact ih _ _ (by simp at hn ⊢; omega) (SL.less ⟨p.drop 8, x, y, q, r, rfl, rfl, hl⟩)
    · by_cases hs : s.length ≤ 8
      · rw [grpB_small hs]
        by_cases ht : (s ++ y :: r).length ≤ 8
        · rw [grpB_small ht]
          have hz := zeros_le (y :: r)
          have hs2 : List.replicate (8 - s.length) (0 : UInt8) = List.replicate (y :: r).length 0 ++ List.replicate (8 - (s ++ y :: r).length) 0 := by rw [List.replicate_append_replicate]; congr 1; simp at ht ⊢; omega
          show SL (s ++ (List.replicate (8 - s.length) 0 ++ [UInt8.ofNat s.length])) ((s ++ y :: r) ++ (List.replicate (8 - (s ++ y :: r).length) 0 ++ [UInt8.ofNat (s ++ y :: r).length]))
          rw [hs2, List.append_assoc, List.append_assoc]
          refine SL.pre ?_ s
          rcases hz with hz | hz
          · rw [hz]
            exact ((sl_one (cnt_lt (by simp) (by simp at ht ⊢; omega)) [] []).pre _).pre _
          · exact hz.app _ _
        · rw [grpB_more (by omega), List.take_append, List.take_of_length_le hs, List.append_assoc]
          show SL (s ++ (List.replicate (8 - s.length) 0 ++ [UInt8.ofNat s.length])) _
          refine SL.pre ?_ s
          have hl : ((y :: r).take (8 - s.length)).length = 8 - s.length := by rw [List.length_take]; simp at ht ⊢; omega
          have hz := zeros_le ((y :: r).take (8 - s.length))
          rw [hl] at hz
          rcases hz with hz | hz
          · rw [← hz]
            exact (sl_one (cnt_lt (n := 9) (by omega) (by omega)) _ _).pre _
          · exact hz.app _ _
      · have h8 : 8 ≤ s.length := by omega
        rw [grpB_more (s := s) (by omega), grpB_more (s := s ++ y :: r) (by simp; omega), List.take_append_of_le_length h8, List.drop_append_of_le_length h8]
        refine SL.pre ?_ _
        refine SL.pre (c := [9]) ?_
        exact ih _ _ (by simp; omega) (less_pre _ _ _)

/-- a value's key -/
def keyB (v : Vl) : List UInt8 :=
  if v.k = 0 then [0]
  else if v.k = 1 then 1 :: tellL ((v.i + 9223372036854775808) % 18446744073709551616).toNat 8
  else if v.k = 2 then 2 :: numB v.u.toNat
  else if v.k = 3 then [3, UInt8.ofNat (v.i % 256).toNat]
  else 4 :: grpB v.s.data.toList
def keyL : List Vl → List UInt8
  | [] => []
  | v :: l => keyB v ++ keyL l
theorem keyL_append (a b : List Vl) : keyL (a ++ b) = keyL a ++ keyL b := by
  induction a with
  | nil => rfl
  | cons v a ih => show keyB v ++ keyL (a ++ b) = (keyB v ++ keyL a) ++ keyL b; rw [ih, List.append_assoc]
/-- a value that may be, its numbers in their kinds -/
structure VOk (v : Vl) : Prop where
  c : v.chk = 0
  i0 : -9223372036854775808 ≤ v.i
  i1 : v.i ≤ 9223372036854775807
  u0 : 0 ≤ v.u
  u1 : v.u < 18446744073709551616
theorem keyB_i (i : Int) : keyB ⟨1, i, 0, ⟨#[]⟩⟩ = 1 :: tellL ((i + 9223372036854775808) % 18446744073709551616).toNat 8 := by simp [keyB]
theorem keyB_u (u : Int) : keyB ⟨2, 0, u, ⟨#[]⟩⟩ = 2 :: numB u.toNat := by simp [keyB]
theorem keyB_b (i : Int) : keyB ⟨3, i, 0, ⟨#[]⟩⟩ = [3, UInt8.ofNat (i % 256).toNat] := by simp [keyB]
theorem keyB_s (s : ByteArray) : keyB ⟨4, 0, 0, s⟩ = 4 :: grpB s.data.toList := by simp [keyB]
theorem keyB_0 : keyB val0 = [0] := by simp [keyB, val0]
theorem key_head {v : Vl} (h : VOk v) : 0 ≤ v.k ∧ v.k ≤ 4 ∧ ∃ t, keyB v = UInt8.ofNat v.k.toNat :: t := by
  rcases chk_forms h.c with rfl | ⟨i, rfl⟩ | ⟨u, rfl⟩ | rfl | rfl | ⟨s, rfl, _⟩
  · exact ⟨by decide, by decide, _, keyB_0⟩
  · exact ⟨by simp, by simp, _, keyB_i i⟩
  · exact ⟨by simp, by simp, _, keyB_u u⟩
  · exact ⟨by simp, by simp, _, keyB_b 0⟩
  · exact ⟨by simp, by simp, _, keyB_b 1⟩
  · exact ⟨by simp, by simp, _, keyB_s s⟩
theorem ord_sl {x y : Vl} (hx : VOk x) (hy : VOk y) (h : x.ord y = -1) : SL (keyB x) (keyB y) := by
  rw [ord_lt] at h
  obtain ⟨a0, a1, t, et⟩ := key_head hx
  obtain ⟨b0, b1, t', et'⟩ := key_head hy
  rcases h with h | ⟨hk, h⟩
  · rw [et, et']
    exact sl_one (cnt_lt (by omega) (by omega)) _ _
  · clear et et' a0 a1 b0 b1
    have i0 := hx.i0
    have i1 := hx.i1
    have j0 := hy.i0
    have j1 := hy.i1
    have u0 := hx.u0
    have u1 := hx.u1
    have v0 := hy.u0
    have v1 := hy.u1
    rcases chk_forms hx.c with rfl | ⟨i, rfl⟩ | ⟨u, rfl⟩ | rfl | rfl | ⟨s, rfl, _⟩ <;> rcases chk_forms hy.c with rfl | ⟨i', rfl⟩ | ⟨u', rfl⟩ | rfl | rfl | ⟨s', rfl, _⟩ <;> simp only [val0] at hk h i0 i1 j0 j1 u0 u1 v0 v1
    all_goals first
      | (exfalso; omega)
      | skip
    · simp [cmpS_zero.2] at h
    · simp [cmpS_zero.2] at h
      rw [keyB_i, keyB_i]
      have h1 : SL (tellL ((i + 9223372036854775808) % 18446744073709551616).toNat 8) (tellL ((i' + 9223372036854775808) % 18446744073709551616).toNat 8) := by
        refine less_sl_len ?_ (by rw [tellL_length, tellL_length]; exact Nat.le_refl _)
        rw [tell_less _ _ 8 (by omega) (by omega), decide_eq_true_eq]
        omega
      exact h1.pre [1]
    · simp [cmpS_zero.2] at h
      rw [keyB_u, keyB_u]
      have h1 : SL (numB u.toNat) (numB u'.toNat) := by
        refine less_sl ?_ (fun x r e => ?_)
        · rw [numB_less _ _ (by omega) (by omega), decide_eq_true_eq]
          omega
        · have := numB_pre _ _ _ (by omega) (by omega) e
          omega
      exact h1.pre [2]
    · simp [cmpS_zero.2] at h
    · rw [keyB_b, keyB_b]
      exact (sl_one (by decide) _ _).pre [3]
    · simp [cmpS_zero.2] at h
    · simp at h
      rw [keyB_s, keyB_s]
      have h1 : SL (grpB s.data.toList) (grpB s'.data.toList) := by
        refine grp_sl s.data.toList.length _ _ (Nat.le_refl _) ?_
        rcases cmpS_cases s s' with ⟨_, h2⟩ | ⟨h1, _⟩ | ⟨h1, _⟩
        · rwa [ByteArray.toList_eq, ByteArray.toList_eq] at h2
        · rw [h1] at h; cases h
        · rw [h1] at h; cases h
      exact h1.pre [4]

theorem cmpI_neg {a b : Int} (h : a < b) : cmpI a b = -1 := by unfold cmpI; rw [if_pos h]
theorem cmpI_pos {a b : Int} (h : b < a) : cmpI a b = 1 := by unfold cmpI; rw [if_neg (by omega), if_pos h]
/-- the order of keys is that of lists -/
theorem lists_key : ∀ (a b : List Vl), (∀ v ∈ a, VOk v) → (∀ v ∈ b, VOk v) → (lists a b < 0 ∧ (SL (keyL a) (keyL b) ∨ ∃ v r, b = a ++ v :: r)) ∨ (lists a b = 0 ∧ a = b) ∨ (0 < lists a b ∧ (SL (keyL b) (keyL a) ∨ ∃ v r, a = b ++ v :: r))
  | [], [], _, _ => .inr (.inl ⟨rfl, rfl⟩)
  | [], v :: r, _, _ => .inl ⟨by rw [show lists [] (v :: r) = cmpI ([] : List Vl).length (v :: r).length from rfl, cmpI_neg (by simp)]; decide, .inr ⟨v, r, rfl⟩⟩
  | v :: r, [], _, _ => .inr (.inr ⟨by rw [show lists (v :: r) [] = cmpI (v :: r).length ([] : List Vl).length from rfl, cmpI_pos (by simp)]; decide, .inr ⟨v, r, rfl⟩⟩)
  | x :: a, y :: b, ha, hb => by
    have e : lists (x :: a) (y :: b) = if x.ord y ≠ 0 then x.ord y else lists a b := rfl
    have hx := ha x (List.mem_cons_self ..)
    have hy := hb y (List.mem_cons_self ..)
    rcases ord_range x y with h | h | h
    · rw [e, if_pos (by omega), h]
      exact .inl ⟨by decide, .inl ((ord_sl hx hy h).app _ _)⟩
    · rw [e, if_neg (by omega)]
      obtain rfl := vl_eq h
      rcases lists_key a b (fun v h => ha v (List.mem_cons_of_mem _ h)) (fun v h => hb v (List.mem_cons_of_mem _ h)) with ⟨h1, h2⟩ | ⟨h1, h2⟩ | ⟨h1, h2⟩
      · refine .inl ⟨h1, ?_⟩
        rcases h2 with h2 | ⟨v, r, rfl⟩
        · exact .inl (h2.pre _)
        · exact .inr ⟨v, r, rfl⟩
      · exact .inr (.inl ⟨h1, by rw [h2]⟩)
      · refine .inr (.inr ⟨h1, ?_⟩)
        rcases h2 with h2 | ⟨v, r, rfl⟩
        · exact .inl (h2.pre _)
        · exact .inr ⟨v, r, rfl⟩
    · rw [e, if_pos (by omega), h]
      have h' : y.ord x = -1 := by rw [ord_anti, h]
      exact .inr (.inr ⟨by decide, .inl ((ord_sl hy hx h').app _ _)⟩)
theorem keyL_cons_head {v : Vl} {r : List Vl} (h : VOk v) : ∃ x t, keyL (v :: r) = x :: t ∧ x < 255 := by
  obtain ⟨h0, h4, t, e⟩ := key_head h
  refine ⟨_, t ++ keyL r, by show keyB v ++ keyL r = _; rw [e]; rfl, ?_⟩
  rw [UInt8.lt_iff_toNat_lt, UInt8.toNat_ofNat']
  show v.k.toNat % 2 ^ 8 < 255
  omega
theorem lists_zero : ∀ (a b : List Vl), lists a b = 0 → a = b
  | [], [], _ => rfl
  | [], v :: r, h => by rw [show lists [] (v :: r) = cmpI ([] : List Vl).length (v :: r).length from rfl, cmpI_neg (by simp)] at h; cases h
  | v :: r, [], h => by rw [show lists (v :: r) [] = cmpI (v :: r).length ([] : List Vl).length from rfl, cmpI_pos (by simp)] at h; cases h
  | x :: a, y :: b, h => by
    rw [show lists (x :: a) (y :: b) = if x.ord y ≠ 0 then x.ord y else lists a b from rfl] at h
    by_cases h0 : x.ord y = 0
    · rw [if_neg (by omega)] at h
      rw [vl_eq h0, lists_zero a b h]
    · rw [if_pos h0] at h
      exact absurd h h0
theorem lists_refl : ∀ (a : List Vl), lists a a = 0
  | [] => rfl
  | x :: a => by
    have h0 : x.ord x = 0 := (ord_zero x x).2 ⟨rfl, rfl, rfl, rfl⟩
    rw [show lists (x :: a) (x :: a) = if x.ord x ≠ 0 then x.ord x else lists a a from rfl, if_neg (by omega)]
    exact lists_refl a
/-- does b begin with a? -/
def begB (a b : List Vl) : Bool := decide (a.length ≤ b.length) && (lists (b.take a.length) a == 0)
theorem begB_app (a r : List Vl) : begB a (a ++ r) = true := by
  unfold begB
  rw [List.take_left' rfl, lists_refl]
  simp
theorem begB_of {a b : List Vl} (h : begB a b = true) : ∃ r, b = a ++ r := by
  unfold begB at h
  rw [Bool.and_eq_true, decide_eq_true_eq, beq_iff_eq] at h
  refine ⟨b.drop a.length, ?_⟩
  conv => lhs; rw [← List.take_append_drop a.length b, lists_zero _ _ h.2]
/-- keys that begin with a key are below its All, all others that are above it are above that -/
theorem keys_law (a b : List Vl) (ha : ∀ v ∈ a, VOk v) (hb : ∀ v ∈ b, VOk v) :
    Op.bytesLess (keyL a) (keyL b) = decide (lists a b < 0) ∧ (keyL a == keyL b) = (lists a b == 0) ∧ Op.bytesLess (keyL b) (keyL a ++ [255]) = (decide (0 < lists a b) || begB a b) := by
  rcases lists_key a b ha hb with ⟨h1, h2 | ⟨v, r, rfl⟩⟩ | ⟨h1, rfl⟩ | ⟨h1, h2 | ⟨v, r, rfl⟩⟩
  · have hl := h2.less
    refine ⟨by rw [hl]; simp [h1], ?_, ?_⟩
    · rw [beq_eq_false_iff_ne.2 (fun e => by rw [e, less_self] at hl; cases hl)]
      symm
      rw [beq_eq_false_iff_ne]
      omega
    · have h3 := less_anti _ _ ((h2.app [255] []).less)
      rw [List.append_nil] at h3
      rw [h3]
      symm
      rw [Bool.or_eq_false_iff, decide_eq_false_iff_not]
      refine ⟨by omega, ?_⟩
      rw [Bool.eq_false_iff]
      intro hbg
      obtain ⟨r, rfl⟩ := begB_of hbg
      rw [keyL_append] at h2
      have h4 := (h2.app (keyL r) [])
      rw [List.append_nil] at h4
      exact sl_irrefl _ h4
  · have hv := hb v (by simp)
    obtain ⟨x, t, e, hx⟩ := keyL_cons_head (r := r) hv
    have e2 : keyL (a ++ v :: r) = keyL a ++ x :: t := by rw [keyL_append, e]
    rw [e2]
    refine ⟨by rw [less_pre]; simp [h1], ?_, ?_⟩
    · rw [show (lists a (a ++ v :: r) == 0) = false by rw [beq_eq_false_iff_ne]; omega, beq_eq_false_iff_ne]
      intro e3
      have := congrArg List.length e3
      simp at this
    · rw [((sl_one hx t []).pre (keyL a)).less]
      rw [begB_app, Bool.or_true]
  · refine ⟨by rw [less_self]; simp [h1], by simp [h1], ?_⟩
    have hbg := begB_app a []
    rw [List.append_nil] at hbg
    rw [less_pre, hbg, Bool.or_true]
  · have hl := h2.less
    refine ⟨by rw [less_anti _ _ hl]; simp; omega, ?_, ?_⟩
    · rw [beq_eq_false_iff_ne.2 (fun e => by rw [e, less_self] at hl; cases hl)]
      symm
      rw [beq_eq_false_iff_ne]
      omega
    · have h3 := ((h2.app [] [255]).less)
      rw [List.append_nil] at h3
      rw [h3]
      simp [h1]
  · have hv := ha v (by simp)
    obtain ⟨x, t, e, hx⟩ := keyL_cons_head (r := r) hv
    have e2 : keyL (b ++ v :: r) = keyL b ++ x :: t := by rw [keyL_append, e]
    rw [e2]
    refine ⟨by rw [less_anti _ _ (less_pre _ _ _)]; simp; omega, ?_, ?_⟩
    · rw [show (lists (b ++ v :: r) b == 0) = false by rw [beq_eq_false_iff_ne]; omega, beq_eq_false_iff_ne]
      intro e3
      have := congrArg List.length e3
      simp at this
    · rw [show (keyL b ++ x :: t) ++ [255] = keyL b ++ x :: (t ++ [255]) by simp, less_pre]
      simp [h1]
end Go.Proofs.YtcedeipmboekaaaGreatDoor
