/-
  log: records, pure; fields, piece, whole.
-/
import Derived.Test.YtbhgcioeibhjeaaGreatDoorOctA
namespace Go.Proofs.YtbhgcioeibhjeaaGreatDoor
open Go.RowKit

/-- the record of some bytes -/
def recL (l : List UInt8) : List UInt8 := tellL l.length 4 ++ (tellL (crc l) 4 ++ l)
theorem recL_length (l : List UInt8) : (recL l).length = 8 + l.length := by
  simp only [recL, List.length_append, tellL_length]
  omega
/-- how many bytes a record at a place says that it has, and their sum -/
def manyO (s : List UInt8) (i : Nat) : Nat := valOf ((s.drop i).take 4) 0
def sumO (s : List UInt8) (i : Nat) : Nat := valOf ((s.drop (i + 4)).take 4) 0
theorem valOf_lt4 (l : List UInt8) (h : l.length ≤ 4) : valOf l 0 < 4294967296 := by
  have h1 := valOf_lt l 0
  have h2 : 256 ^ l.length ≤ 256 ^ 4 := Nat.pow_le_pow_right (by decide) h
  omega
theorem manyO_lt (s : List UInt8) (i : Nat) : manyO s i < 4294967296 := valOf_lt4 _ (by rw [List.length_take]; omega)
theorem sumO_lt (s : List UInt8) (i : Nat) : sumO s i < 4294967296 := valOf_lt4 _ (by rw [List.length_take]; omega)
/-- the bytes of the record that begins at a place, by how many they are -/
def pieceO (s : List UInt8) (i : Nat) : Option (List UInt8) := if i + 8 ≤ s.length ∧ manyO s i ≤ 60000 ∧ i + 8 + manyO s i ≤ s.length then some ((s.drop (i + 8)).take (manyO s i)) else none
/-- if their sum is right, too -/
def wholeO (s : List UInt8) (i : Nat) : Option (List UInt8) := match pieceO s i with
  | some b => if crc b = sumO s i then some b else none
  | none => none
theorem pieceO_len {s b : List UInt8} {i : Nat} (h : pieceO s i = some b) : b.length = manyO s i ∧ i + 8 + b.length ≤ s.length ∧ b.length ≤ 60000 := by
  unfold pieceO at h
  split at h
  · rename_i hc
    cases h
    rw [List.length_take, List.length_drop]
    omega
  · cases h
theorem wholeO_piece {s b : List UInt8} {i : Nat} (h : wholeO s i = some b) : pieceO s i = some b ∧ crc b = sumO s i := by
  unfold wholeO at h
  split at h
  · rename_i c hc
    split at h
    · rename_i hs
      cases h
      exact ⟨hc, hs⟩
    · cases h
  · cases h
/-- a record that stands at a place is found there -/
theorem wholeO_rec (p b q : List UInt8) (hb : b.length ≤ 60000) : wholeO (p ++ (recL b ++ q)) p.length = some b := by
  have hd : (p ++ (recL b ++ q)).drop p.length = recL b ++ q := List.drop_left
  have h4 : (p ++ (recL b ++ q)).drop (p.length + 4) = tellL (crc b) 4 ++ (b ++ q) := by
    rw [← List.drop_drop, hd]
    simp only [recL, List.append_assoc]
    exact List.drop_left' (tellL_length _ _)
  have h8 : (p ++ (recL b ++ q)).drop (p.length + 8) = b ++ q := by
    rw [show p.length + 8 = p.length + 4 + 4 by omega, ← List.drop_drop, h4]
    exact List.drop_left' (tellL_length _ _)
  have hm : manyO (p ++ (recL b ++ q)) p.length = b.length := by
    unfold manyO
    rw [hd]
    simp only [recL, List.append_assoc]
    rw [List.take_left' (tellL_length _ _), valOf_tell]
    have : b.length % 256 ^ 4 = b.length := Nat.mod_eq_of_lt (by omega)
    omega
  have hc : crc b < 4294967296 := by unfold crc; omega
  have hs : sumO (p ++ (recL b ++ q)) p.length = crc b := by
    unfold sumO
    rw [h4, List.take_left' (tellL_length _ _), valOf_tell]
    have : crc b % 256 ^ 4 = crc b := Nat.mod_eq_of_lt (by omega)
    omega
  have hp : pieceO (p ++ (recL b ++ q)) p.length = some b := by
    unfold pieceO
    rw [hm, h8, List.take_left, if_pos]
    simp only [List.length_append, recL_length]
    omega
  unfold wholeO
  rw [hp, hs]
  exact if_pos rfl
/-- the first part of one finds none -/
theorem wholeO_torn (p b q : List UInt8) (hb : b.length ≤ 60000) (hq : q.length < (recL b).length) (hpre : (recL b).take q.length = q) : pieceO (p ++ q) p.length = none := by
  unfold pieceO
  rw [if_neg]
  rintro ⟨h1, h2, h3⟩
  rw [List.length_append] at h1 h3
  rw [recL_length] at hq
  have hd : (p ++ q).drop p.length = q := List.drop_left
  have hm : manyO (p ++ q) p.length = b.length := by
    unfold manyO
    rw [hd, ← hpre, List.take_take, Nat.min_eq_left (by omega)]
    simp only [recL]
    rw [List.take_left' (tellL_length _ _), valOf_tell]
    have : b.length % 256 ^ 4 = b.length := Nat.mod_eq_of_lt (by omega)
    omega
  omega
end Go.Proofs.YtbhgcioeibhjeaaGreatDoor
namespace Go.Proofs.YtbhgcioeibhjeaaGreatDoor
end Go.Proofs.YtbhgcioeibhjeaaGreatDoor
namespace Go.Proofs.YtbhgcioeibhjeaaGreatDoor
open Go.RowKit

set_option maxHeartbeats 1000000 in
theorem behind_any (i : Nat) (oa : Option Addr) (n cap : Nat) (w : World) (hi : i ≤ 100000000) (hn : n ≤ 100000000) :
    Calls Tryz.prog 45 #[.int .i64 i, .slice oa n cap] w fun e w' => e = .returned (.int .i64 ((i + 8 + n : Nat) : Int)) ∧ w = w' := by
  go_enter Tryz.func45, Tryz.ntmps45
  go_wp2
  go_ret
  exact ⟨by go_num, rfl⟩
set_option maxRecDepth 100000 in
set_option maxHeartbeats 2000000 in
theorem fields_no (oa : Option Addr) (n cap i : Nat) (w : World) (hn : n ≤ 100000000) (hc : n ≤ cap) (hi : i ≤ n) (h8 : n < i + 8) :
    Calls Tryz.prog 73 #[.slice oa n cap, .int .i64 i] w fun e w' => e = .returned (.tuple #[.int .u64 0, .int .u64 0, .bool false]) ∧ w = w' := by
  have h0 : (0 : Int) ≤ (i : Int) := by omega
  have h1 : (i : Int) ≤ (n : Int) := by omega
  go_enter Tryz.func73, Tryz.ntmps73
  go_wp2
  all_goals
    refine bodyPost_ret (v := .tuple #[.int .u64 0, .int .u64 0, .bool false]) (by simp [results, Tryz.results73, go_sem]) rfl ⟨rfl, rfl⟩
theorem BytesAt.base {w : World} {oa : Option Addr} {cap : Nat} {l : List UInt8} (h : BytesAt w (.slice oa l.length cap) l) (hl : 0 < l.length) : ∃ a, oa = some a ∧ l.length ≤ cap := by
  obtain ⟨oa', cap', he, hcap, hcell⟩ := h
  cases he
  obtain ⟨a, ha, _⟩ := hcell 0 hl
  exact ⟨a, ha, hcap⟩
set_option maxRecDepth 100000 in
set_option maxHeartbeats 1000000 in
theorem fields_yes (oa : Option Addr) (cap i : Nat) (l : List UInt8) (w : World) (hv : BytesAt w (.slice oa l.length cap) l) (hn : l.length ≤ 100000000) (h8 : i + 8 ≤ l.length) :
    Calls Tryz.prog 73 #[.slice oa l.length cap, .int .i64 i] w fun e w' => e = .returned (.tuple #[.int .u64 (manyO l i : Nat), .int .u64 (sumO l i : Nat), .bool true]) ∧ w = w' := by
  have hcap : l.length ≤ cap := by
    obtain ⟨_, _, e, h, _⟩ := id hv
    cases e
    exact h
  have hl4 : ∀ k, k + 4 ≤ l.length → ((l.drop k).take 4).length = 4 := fun k hk => by rw [List.length_take, List.length_drop]; omega
  have H1 : Hid (Calls Tryz.prog 94 #[.slice (Option.map ((fun x => x) ∘ fun x => x.add i) oa) 4 (cap - i)] w fun e w' => e = .returned (.tuple #[.int .u64 (manyO l i : Nat), .int .i64 0]) ∧ w = w') := Lib.hid (by
    have h := ReadFixed_any _ _ w (hv.cut (i := i) (k := 4) (by omega) (oa.map (·.add i)) (by rw [if_neg (by omega)]) (cap - i) (by omega)) (by rw [hl4 i (by omega)]; omega)
    rw [hl4 i (by omega), if_pos (by omega)] at h
    exact h)
  have hbase : Option.map ((fun x : Addr => ({ block := x.block, off := x.off + 4 } : Addr)) ∘ fun x => x.add i) oa = oa.map (·.add (i + 4)) := by
    cases oa with
    | none => rfl
    | some a => simp [← Addr.add_add]; rfl
  have H2 : Hid (Calls Tryz.prog 94 #[.slice (Option.map ((fun x : Addr => ({ block := x.block, off := x.off + 4 } : Addr)) ∘ fun x => x.add i) oa) 4 (cap - i - 4)] w fun e w' => e = .returned (.tuple #[.int .u64 (sumO l i : Nat), .int .i64 0]) ∧ w = w') := Lib.hid (by
    have h := ReadFixed_any _ _ w (hv.cut (i := i + 4) (k := 4) (by omega) (oa.map (·.add (i + 4))) (by rw [if_neg (by omega)]) (cap - i - 4) (by omega)) (by rw [hl4 _ (by omega)]; omega)
    rw [hl4 _ (by omega), if_pos (by omega)] at h
    rw [hbase]
    exact h)
  clear hbase
  generalize manyO l i = m1 at *
  generalize sumO l i = m2 at *
  clear hl4 hv
  generalize l.length = n at *
  have q0 : (0 : Int) ≤ (i : Int) := by omega
  have q1 : (i : Int) ≤ (n : Int) := by omega
  have q2 : ¬ cap = i := by omega
  have q3 : ¬ (n - i < 8) := by omega
  have q4 : ¬ (cap - i = 4) := by omega
  go_enter Tryz.func73, Tryz.ntmps73
  go_upto_region 5 with (go_at_call 94; with_reducible refine H1.out.mono ?_; rintro e w' ⟨rfl, rfl⟩)
  go_wp2_with (first | (go_at_call 94; with_reducible refine H2.out.mono ?_; rintro e w' ⟨rfl, rfl⟩))
  all_goals
    refine bodyPost_ret (v := .tuple #[.int .u64 m1, .int .u64 m2, .bool true]) (by simp [results, Tryz.results73, go_sem]) rfl ⟨rfl, rfl⟩
end Go.Proofs.YtbhgcioeibhjeaaGreatDoor
namespace Go.Proofs.YtbhgcioeibhjeaaGreatDoor
open Go.RowKit

set_option maxRecDepth 100000 in
set_option maxHeartbeats 1000000 in
theorem piece_room (oa : Option Addr) (n cap i : Nat) (w : World) (hn : n ≤ 100000000) (hc : n ≤ cap) (hi : i ≤ n) (h8 : n < i + 8) :
    Calls Tryz.prog 55 #[.slice oa n cap, .int .i64 i] w fun e w' => e = .returned (.tuple #[.slice none 0 0, .bool false]) ∧ w = w' := by
  have HF := Lib.hid (fields_no oa n cap i w hn hc hi h8)
  go_enter Tryz.func55, Tryz.ntmps55
  go_wp2_with fail
  refine wp_scope_ahead 0 rfl ?_
  go_wp2_with (first | (go_at_call 73; with_reducible refine HF.out.mono ?_; rintro e w1 ⟨rfl, rfl⟩))
  go_step3
  refine ⟨rfl, ?_⟩
  go_wp2
  simp only [Exit.jump]
  go_ret2
  exact ⟨rfl, rfl⟩
set_option maxRecDepth 100000 in
set_option maxHeartbeats 1000000 in
theorem piece_big (oa : Option Addr) (cap i : Nat) (l : List UInt8) (w : World) (hv : BytesAt w (.slice oa l.length cap) l) (hn : l.length ≤ 100000000) (h8 : i + 8 ≤ l.length) (hm : 60000 < manyO l i) :
    Calls Tryz.prog 55 #[.slice oa l.length cap, .int .i64 i] w fun e w' => e = .returned (.tuple #[.slice none 0 0, .bool false]) ∧ w = w' := by
  have HF := Lib.hid (fields_yes oa cap i l w hv hn h8)
  have hlt := manyO_lt l i
  clear hv
  generalize manyO l i = m1 at *
  generalize sumO l i = m2 at *
  generalize l.length = n at *
  go_enter Tryz.func55, Tryz.ntmps55
  go_wp2_with fail
  refine wp_scope_ahead 0 rfl ?_
  go_wp2_with (first | (go_at_call 73; with_reducible refine HF.out.mono ?_; rintro e w1 ⟨rfl, rfl⟩))
  go_step3
  refine ⟨rfl, ?_⟩
  go_wp2
  simp only [Exit.jump]
  go_ret2
  exact ⟨rfl, rfl⟩
set_option maxRecDepth 100000 in
set_option maxHeartbeats 1000000 in
theorem piece_far (oa : Option Addr) (cap i : Nat) (l : List UInt8) (w : World) (hv : BytesAt w (.slice oa l.length cap) l) (hn : l.length ≤ 100000000) (h8 : i + 8 ≤ l.length) (hm : manyO l i ≤ 60000) (hf : l.length < i + 8 + manyO l i) :
    Calls Tryz.prog 55 #[.slice oa l.length cap, .int .i64 i] w fun e w' => e = .returned (.tuple #[.slice none 0 0, .bool false]) ∧ w = w' := by
  have HF := Lib.hid (fields_yes oa cap i l w hv hn h8)
  clear hv
  generalize manyO l i = m1 at *
  generalize sumO l i = m2 at *
  generalize l.length = n at *
  go_enter Tryz.func55, Tryz.ntmps55
  go_wp2_with fail
  refine wp_scope_ahead 0 rfl ?_
  go_wp2_with (first | (go_at_call 73; with_reducible refine HF.out.mono ?_; rintro e w1 ⟨rfl, rfl⟩))
  go_step3
  refine ⟨rfl, ?_⟩
  go_wp2
  simp only [Exit.jump]
  go_ret2
  exact ⟨rfl, rfl⟩
set_option maxRecDepth 100000 in
set_option maxHeartbeats 1000000 in
theorem piece_ok (oa : Option Addr) (cap i : Nat) (l : List UInt8) (w : World) (hv : BytesAt w (.slice oa l.length cap) l) (hn : l.length ≤ 100000000) (h8 : i + 8 ≤ l.length) (hm : manyO l i ≤ 60000) (hf : i + 8 + manyO l i ≤ l.length) :
    Calls Tryz.prog 55 #[.slice oa l.length cap, .int .i64 i] w fun e w' => e = .returned (.tuple #[pieceV oa (i + 8) (manyO l i), .bool true]) ∧ w = w' := by
  have hcap : l.length ≤ cap := by
    obtain ⟨_, _, e, h, _⟩ := id hv
    cases e
    exact h
  have HF := Lib.hid (fields_yes oa cap i l w hv hn h8)
  clear hv
  unfold pieceV
  generalize manyO l i = m1 at *
  generalize sumO l i = m2 at *
  generalize l.length = n at *
  by_cases h0 : m1 = 0
  · subst h0
    go_enter Tryz.func55, Tryz.ntmps55
    go_wp2_with fail
    refine wp_scope_ahead 0 rfl ?_
    go_wp2_with (first | (go_at_call 73; with_reducible refine HF.out.mono ?_; rintro e w1 ⟨rfl, rfl⟩))
    simp only [Exit.jump]
    go_ret2
    exact ⟨rfl, rfl⟩
  · have h1 : ¬ (i + 8 + m1 = i + 8) := by omega
    rw [if_neg h0]
    go_enter Tryz.func55, Tryz.ntmps55
    go_wp2_with fail
    refine wp_scope_ahead 0 rfl ?_
    go_wp2_with (first | (go_at_call 73; with_reducible refine HF.out.mono ?_; rintro e w1 ⟨rfl, rfl⟩))
    simp only [Exit.jump]
    go_ret2
    refine ⟨?_, rfl⟩
    show Ending.returned (.tuple #[.slice _ (i + 8 + m1 - (i + 8)) (i + 8 + m1 - (i + 8)), .bool true]) = _
    rw [Nat.add_sub_cancel_left]
end Go.Proofs.YtbhgcioeibhjeaaGreatDoor
namespace Go.Proofs.YtbhgcioeibhjeaaGreatDoor
open Go.RowKit

/-- the sum of one slice, handed over in a list of its own -/
theorem sum_one (v : Value) (l : List UInt8) (w : World) (hv : BytesAt w v l) (hl : l.length ≤ 1000000) :
    Calls Tryz.prog 74 #[.slice (some ⟨w.heap.size, 0, none⟩) 1 1] (w.alloc (.cells #[v] 43)) fun e w' => e = .returned (.int .u32 (crc l)) ∧ w.alloc (.cells #[v] 43) = w' := by
  have hb : Below w.heap.size w (w.alloc (.cells #[v] 43)) := (Below.refl _ w).alloc (Nat.le_refl _) _
  have hr : RowsAt (w.alloc (.cells #[v] 43)) (.slice (some ⟨w.heap.size, 0, none⟩) 1 1) [(v, l)] := ⟨_, 1, rfl, fun j hj => by
    have hj0 : j = 0 := by simpa using hj
    subst hj0
    refine ⟨_, rfl, ?_, hv.keep hb (Nat.le_refl _)⟩
    rw [show (⟨w.heap.size, 0, none⟩ : Addr).add 0 = ⟨w.heap.size, 0, none⟩ by unfold Addr.add; split <;> simp_all]
    have hh := heap_alloc_at w (.cells #[v] 43)
    simp only [World.cell?]
    rw [hh]
    rfl⟩
  have h := Sum_any _ _ _ hr (by simp) (by intro x hx; simp at hx; subst hx; exact hl)
  have hc : catL [(v, l)] = l := by simp [catL]
  rw [hc] at h
  exact h
/-- nothing is told where no record begins -/
def NoneW (w : World) : Ending → World → Prop := fun e w' => e = .returned (.tuple #[.slice none 0 0, .bool false]) ∧ Below w.heap.size w w'
set_option maxRecDepth 100000 in
set_option maxHeartbeats 1000000 in
theorem whole_room (oa : Option Addr) (n cap i : Nat) (w : World) (hn : n ≤ 100000000) (hc : n ≤ cap) (hi : i ≤ n) (h8 : n < i + 8) :
    Calls Tryz.prog 44 #[.slice oa n cap, .int .i64 i] w (NoneW w) := by
  have HF := Lib.hid (fields_no oa n cap i w hn hc hi h8)
  have HP := Lib.hid (piece_room oa n cap i w hn hc hi h8)
  go_enter Tryz.func44, Tryz.ntmps44
  go_wp2_with (first | (go_at_call 73; with_reducible refine HF.out.mono ?_; rintro e w1 ⟨rfl, rfl⟩) | (go_at_call 55; with_reducible refine HP.out.mono ?_; rintro e w1 ⟨rfl, rfl⟩))
  go_ret2
  exact ⟨rfl, Below.refl _ _⟩
set_option maxRecDepth 100000 in
set_option maxHeartbeats 1000000 in
theorem whole_none (oa : Option Addr) (cap i : Nat) (l : List UInt8) (w : World) (hv : BytesAt w (.slice oa l.length cap) l) (hn : l.length ≤ 100000000) (h8 : i + 8 ≤ l.length) (hno : ¬ (manyO l i ≤ 60000 ∧ i + 8 + manyO l i ≤ l.length)) :
    Calls Tryz.prog 44 #[.slice oa l.length cap, .int .i64 i] w (NoneW w) := by
  have HF := Lib.hid (fields_yes oa cap i l w hv hn h8)
  have HP : Hid (Calls Tryz.prog 55 #[.slice oa l.length cap, .int .i64 i] w fun e w' => e = .returned (.tuple #[.slice none 0 0, .bool false]) ∧ w = w') := Lib.hid (by
    by_cases hm : manyO l i ≤ 60000
    · exact piece_far oa cap i l w hv hn h8 hm (by omega)
    · exact piece_big oa cap i l w hv hn h8 (by omega))
  clear hv hno h8
  generalize manyO l i = m1 at *
  generalize sumO l i = m2 at *
  generalize l.length = n at *
  go_enter Tryz.func44, Tryz.ntmps44
  go_wp2_with (first | (go_at_call 73; with_reducible refine HF.out.mono ?_; rintro e w1 ⟨rfl, rfl⟩) | (go_at_call 55; with_reducible refine HP.out.mono ?_; rintro e w1 ⟨rfl, rfl⟩))
  go_ret2
  exact ⟨rfl, Below.refl _ _⟩
set_option maxRecDepth 100000 in
set_option maxHeartbeats 1000000 in
theorem whole_sum (oa : Option Addr) (cap i : Nat) (l : List UInt8) (w : World) (hv : BytesAt w (.slice oa l.length cap) l) (hn : l.length ≤ 100000000) (h8 : i + 8 ≤ l.length) (hm : manyO l i ≤ 60000) (hf : i + 8 + manyO l i ≤ l.length) :
    Calls Tryz.prog 44 #[.slice oa l.length cap, .int .i64 i] w fun e w' => e = .returned (if crc ((l.drop (i + 8)).take (manyO l i)) = sumO l i then .tuple #[pieceV oa (i + 8) (manyO l i), .bool true] else .tuple #[.slice none 0 0, .bool false]) ∧ Below w.heap.size w w' := by
  have HF := Lib.hid (fields_yes oa cap i l w hv hn h8)
  have HP := Lib.hid (piece_ok oa cap i l w hv hn h8 hm hf)
  have hpb := hv.piece (i := i + 8) (many := manyO l i) hf
  have HS := Lib.hid (sum_one _ _ w hpb (by rw [List.length_take]; omega))
  have hcl : crc ((l.drop (i + 8)).take (manyO l i)) < 4294967296 := by unfold crc; omega
  have hsl := sumO_lt l i
  have hb : Below w.heap.size w (w.alloc (.cells #[pieceV oa (i + 8) (manyO l i)] 43)) := (Below.refl _ w).alloc (Nat.le_refl _) _
  have hpv : ∃ ob, pieceV oa (i + 8) (manyO l i) = .slice ob (manyO l i) (manyO l i) := ⟨_, rfl⟩
  obtain ⟨ob, hpv⟩ := hpv
  rw [hpv] at HP HS hb ⊢
  clear hv hpb hpv
  generalize crc ((l.drop (i + 8)).take (manyO l i)) = cc at *
  generalize manyO l i = m1 at *
  generalize sumO l i = m2 at *
  generalize l.length = n at *
  by_cases hc : cc = m2
  · subst hc
    rw [if_pos rfl]
    go_enter Tryz.func44, Tryz.ntmps44
    go_wp2_with (first | (go_at_call 73; with_reducible refine HF.out.mono ?_; rintro e w1 ⟨rfl, rfl⟩) | (go_at_call 55; with_reducible refine HP.out.mono ?_; rintro e w1 ⟨rfl, rfl⟩) | (go_at_call 74; with_reducible refine HS.out.mono ?_; rintro e w1 ⟨rfl, rfl⟩))
    go_ret2
    exact ⟨rfl, hb⟩
  · rw [if_neg hc]
    have hc2 : ¬ ((cc : Int) = (m2 : Int)) := by omega
    go_enter Tryz.func44, Tryz.ntmps44
    go_wp2_with (first | (go_at_call 73; with_reducible refine HF.out.mono ?_; rintro e w1 ⟨rfl, rfl⟩) | (go_at_call 55; with_reducible refine HP.out.mono ?_; rintro e w1 ⟨rfl, rfl⟩) | (go_at_call 74; with_reducible refine HS.out.mono ?_; rintro e w1 ⟨rfl, rfl⟩))
    go_ret2
    exact ⟨rfl, hb⟩
end Go.Proofs.YtbhgcioeibhjeaaGreatDoor
