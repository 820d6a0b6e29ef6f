/-
  swingbridgelaw02.num and works.
-/
import Derived.Test.YtkjdhkpnbgflhaaOFixed
import Derived.Test.YtkjdhkpnbgflhaaOSum
namespace Go.Proofs.Ytkjdhkpnbgflhaa
open Go.RowKit

theorem num_id (n : Int) (w : World) : Calls Try.prog 10 #[.int .i64 n] w fun e w' => e = .returned (.int .i64 n) ∧ w = w' := by
  go_enter Try.func10, Try.ntmps10
  go_wp2
  go_ret
  exact ⟨rfl, rfl⟩

theorem rn_a (W : World) : Calls Try.prog 7 #[.slice (some ⟨W.heap.size, 0, none⟩) 2 2] (W.alloc (.cells #[.int .u8 1, .int .u8 0] 5)) fun e w' => e = .returned (.tuple #[.int .u64 0, .int .i64 0, .int .i64 120]) ∧ Below W.heap.size W w' := by
  refine (ReadNumber_any _ [1, 0] _ (bytes_lit W [1, 0] _ 2 rfl rfl) (by decide)).mono ?_
  rintro e w' ⟨rfl, hb⟩
  exact ⟨rfl, below_alloc hb⟩
theorem rn_b (W : World) : Calls Try.prog 7 #[.slice (some ⟨W.heap.size, 0, none⟩) 4 4] (W.alloc (.cells #[.int .u8 2, .int .u8 1, .int .u8 2, .int .u8 7] 5)) fun e w' => e = .returned (.tuple #[.int .u64 258, .int .i64 3, .int .i64 0]) ∧ Below W.heap.size W w' := by
  refine (ReadNumber_any _ [2, 1, 2, 7] _ (bytes_lit W [2, 1, 2, 7] _ 4 rfl rfl) (by decide)).mono ?_
  rintro e w' ⟨rfl, hb⟩
  exact ⟨rfl, below_alloc hb⟩
theorem fx_a (W : World) : Calls Try.prog 8 #[.int .u64 258, .int .i64 3] W fun e w' => ∃ v, e = .returned (.tuple #[v, .int .i64 0]) ∧ BytesAt w' v [0, 1, 2] ∧ Below W.heap.size W w' := Fixed_any 258 3 W (by decide)
theorem fx_b (W : World) : Calls Try.prog 8 #[.int .u64 258, .int .i64 1] W fun e w' => ∃ v, e = .returned (.tuple #[v, .int .i64 4]) ∧ BytesAt w' v [] ∧ Below W.heap.size W w' := Fixed_any 258 1 W (by decide)
/-- what is told as bytes can be read as a text -/
def TellsStr (W : World) (l : List UInt8) (e : Ending) (w' : World) : Prop := ∃ v, e = .returned v ∧ (convert 22 9 v).run Try.prog w' = .ok (.string ⟨l.toArray⟩) w' ∧ Below W.heap.size W w'
theorem nb_a (W : World) : Calls Try.prog 9 #[.int .u64 0] W (TellsStr W [0]) := (Number_any 0 W (by decide)).mono fun _ _ ⟨v, he, h⟩ => ⟨v, he, bytes_string h.at.1, h.at.2⟩
theorem nb_b (W : World) : Calls Try.prog 9 #[.int .u64 258] W (TellsStr W [2, 1, 2]) := (Number_any 258 W (by decide)).mono fun _ _ ⟨v, he, h⟩ => ⟨v, he, bytes_string h.at.1, h.at.2⟩
theorem tx_a (W : World) : Calls Try.prog 11 #[.string ⟨#[97, 98]⟩] W (TellsStr W [1, 2, 97, 98]) := (Text_any ⟨#[97, 98]⟩ W (by decide)).mono fun _ _ ⟨v, he, h⟩ => ⟨v, he, bytes_string h.at.1, h.at.2⟩
theorem sm_0 (W : World) : Calls Try.prog 12 #[.slice none 0 0] W fun e w' => e = .returned (.int .u32 0) ∧ W = w' := Sum_any _ [] W ⟨none, 0, rfl, fun j h => by simp at h⟩ (by decide) (by simp)
def nine : List UInt8 := [49, 50, 51, 52, 53, 54, 55, 56, 57]
theorem row_one {W : World} {v : Value} {l : List UInt8} (h : BytesAt W v l) (t : TypeId) : RowsAt (W.alloc (.cells #[v] t)) (.slice (some ⟨W.heap.size, 0, none⟩) 1 1) [(v, l)] := by
  refine ⟨_, 1, rfl, fun j hj => ⟨_, rfl, ?_, ?_⟩⟩
  · obtain rfl : j = 0 := by simpa using hj
    simp [go_sem]
  · obtain rfl : j = 0 := by simpa using hj
    exact h.keep ((Below.refl _ _).alloc (Nat.le_refl _) _) (Nat.le_refl _)
theorem sm_9 (W : World) : Calls Try.prog 12 #[.slice (some ⟨W.heap.size + 1, 0, none⟩) 1 1] ((W.alloc (.cells #[.int .u8 49, .int .u8 50, .int .u8 51, .int .u8 52, .int .u8 53, .int .u8 54, .int .u8 55, .int .u8 56, .int .u8 57] 5 (9, 10))).alloc (.cells #[.slice (some ⟨W.heap.size, 0, none⟩) 9 9] 22)) fun e w' => e = .returned (.int .u32 3808858755) ∧ Below W.heap.size W w' := by
  have hr := row_one (bytes_litc W nine _ 9 rfl rfl) 22
  rw [World.size_alloc] at hr
  refine (Sum_any _ _ _ hr (by simp) (by simp [nine])).mono ?_
  rintro e w' ⟨rfl, rfl⟩
  exact ⟨congrArg (fun n : Nat => Ending.returned (.int .u32 n)) (show crc (catL [(Value.slice (some ⟨W.heap.size, 0, none⟩) 9 9, nine)]) = 3808858755 from (by decide +kernel : crc nine = 3808858755)), ((Below.refl _ _).alloc (Nat.le_refl _) _).alloc (by simp) _⟩

set_option maxRecDepth 100000 in
set_option maxHeartbeats 4000000 in
theorem works_true (w : World) : Calls Try.prog 4 #[] w fun e w' => e = .returned (.bool true) ∧ Below w.heap.size w w' := by
  have A1 := Lib.hid rn_a
  have A2 := Lib.hid rn_b
  have F1 := Lib.hid fx_a
  have F2 := Lib.hid fx_b
  have N1 := Lib.hid nb_a
  have N2 := Lib.hid nb_b
  have T1 := Lib.hid tx_a
  have S0 := Lib.hid sm_0
  have S9 := Lib.hid sm_9
  have kc := fun (w : World) (C : Array Value) (n c : Nat) => Lib.run_convert_bytes_const (P := Try.prog) w 22 5 C n c Try.underlying22 Try.underlying5
  go_enter Try.func4, Try.ntmps4
  go_wp2_with fail
  refine (A1.out _).mono ?_
  rintro e w1 ⟨rfl, hb1⟩
  go_wp2_with fail
  refine (A2.out _).mono ?_
  rintro e w2 ⟨rfl, hb2⟩
  go_wp2_with fail
  refine (F1.out _).mono ?_
  rintro e w3 ⟨va, rfl, hva, hb3⟩
  have HA := Lib.hid hva
  clear hva
  go_wp2_with fail
  refine (F2.out _).mono ?_
  rintro e w4 ⟨vb, rfl, hvb, hb4⟩
  clear hvb
  go_wp2_with fail
  refine (N1.out _).mono ?_
  rintro e w5 ⟨v5, rfl, hc5, hb5⟩
  go_wp2_with fail
  refine (N2.out _).mono ?_
  rintro e w6 ⟨v6, rfl, hc6, hb6⟩
  go_wp2_with (first | (go_at_call 10; refine (num_id _ _).mono ?_; rintro e w' ⟨rfl, rfl⟩))
  refine (T1.out _).mono ?_
  rintro e w7 ⟨v7, rfl, hc7, hb7⟩
  go_wp2_with fail
  refine (S9.out _).mono ?_
  rintro e w8 ⟨rfl, hb8⟩
  go_wp2_with fail
  refine (S0.out _).mono ?_
  rintro e w9 ⟨rfl, rfl⟩
  have h34 := hb4.trans ((hb5.trans ((hb6.trans ((hb7.trans (hb8.mono hb7.size)).mono hb6.size)).mono hb5.size)).mono hb4.size)
  have hca := bytes_string (HA.out.keep h34 (Nat.le_refl _))
  have HB := Lib.hid (hb1.trans ((hb2.trans ((hb3.trans (h34.mono hb3.size)).mono hb2.size)).mono hb1.size))
  clear h34 hb1 hb2 hb3 hb4 hb5 hb6 hb7 hb8
  go_wp2_with (first | (go_at_call 10; refine (num_id _ _).mono ?_; rintro e w' ⟨rfl, rfl⟩))
  go_ret
  exact ⟨rfl, HB.out⟩
end Go.Proofs.Ytkjdhkpnbgflhaa
