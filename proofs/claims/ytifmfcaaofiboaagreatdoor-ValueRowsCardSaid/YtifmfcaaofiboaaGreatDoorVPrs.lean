/-
  value.parse, value.Parse.
-/
import Derived.Test.YtifmfcaaofiboaaGreatDoorTextB
namespace Go.Proofs.YtifmfcaaofiboaaGreatDoor
open Go.RowKit

theorem kindOf_null (w : World) : Calls Tryz.prog 56 #[.string ⟨#[110, 117, 108, 108]⟩] w fun e w' => e = .returned (.int .i64 0) ∧ w = w' := by
  go_enter Tryz.func56, Tryz.ntmps56
  go_wp2
  go_ret
  exact ⟨rfl, rfl⟩
theorem kindOf_false (w : World) : Calls Tryz.prog 56 #[.string ⟨#[102, 97, 108, 115, 101]⟩] w fun e w' => e = .returned (.int .i64 3) ∧ w = w' := by
  go_enter Tryz.func56, Tryz.ntmps56
  go_wp2
  go_ret
  exact ⟨rfl, rfl⟩
theorem kindOf_true (w : World) : Calls Tryz.prog 56 #[.string ⟨#[116, 114, 117, 101]⟩] w fun e w' => e = .returned (.int .i64 3) ∧ w = w' := by
  go_enter Tryz.func56, Tryz.ntmps56
  go_wp2
  go_ret
  exact ⟨rfl, rfl⟩
/-- no word stands there -/
structure NoWord (s : ByteArray) : Prop where
  n : (s.toList == [110, 117, 108, 108]) = false
  f : (s.toList == [102, 97, 108, 115, 101]) = false
  t : (s.toList == [116, 114, 117, 101]) = false
theorem kindOf_bytes (s : ByteArray) (w : World) (h : NoWord s) (hp : Lib.hasPrefix s.data.toList [120, 39] = true) : Calls Tryz.prog 56 #[.string s] w fun e w' => e = .returned (.int .i64 4) ∧ w = w' := by
  obtain ⟨h1, h2, h3⟩ := h
  go_enter Tryz.func56, Tryz.ntmps56
  go_wp2_with (first | (go_at_call 48; refine (Of_any _ _ _).mono ?_; rintro e w' ⟨rfl, rfl⟩) | (go_at_call 87; refine (Tryz.strings_HasPrefix _ _ _).mono ?_; rintro e w' ⟨rfl, rfl⟩))
  go_ret
  exact ⟨rfl, rfl⟩
theorem kindOf_uint (s : ByteArray) (w : World) (h : NoWord s) (hp : Lib.hasPrefix s.data.toList [120, 39] = false) (hs : Lib.hasSuffix s.data.toList [117] = true) (hz : s.size ≤ 9223372036854775806) : Calls Tryz.prog 56 #[.string s] w fun e w' => e = .returned (.int .i64 2) ∧ w = w' := by
  obtain ⟨h1, h2, h3⟩ := h
  go_enter Tryz.func56, Tryz.ntmps56
  go_wp2_with (first | (go_at_call 48; refine (Of_any _ _ _).mono ?_; rintro e w' ⟨rfl, rfl⟩) | (go_at_call 87; refine (Tryz.strings_HasPrefix _ _ _).mono ?_; rintro e w' ⟨rfl, rfl⟩) | (go_at_call 88; refine (Tryz.strings_HasSuffix _ _ _ ?_).mono ?_; omega; rintro e w' ⟨rfl, rfl⟩))
  go_ret
  exact ⟨rfl, rfl⟩
theorem kindOf_int (s : ByteArray) (w : World) (h : NoWord s) (hp : Lib.hasPrefix s.data.toList [120, 39] = false) (hs : Lib.hasSuffix s.data.toList [117] = false) (hz : s.size ≤ 9223372036854775806) : Calls Tryz.prog 56 #[.string s] w fun e w' => e = .returned (.int .i64 1) ∧ w = w' := by
  obtain ⟨h1, h2, h3⟩ := h
  go_enter Tryz.func56, Tryz.ntmps56
  go_wp2_with (first | (go_at_call 48; refine (Of_any _ _ _).mono ?_; rintro e w' ⟨rfl, rfl⟩) | (go_at_call 87; refine (Tryz.strings_HasPrefix _ _ _).mono ?_; rintro e w' ⟨rfl, rfl⟩) | (go_at_call 88; refine (Tryz.strings_HasSuffix _ _ _ ?_).mono ?_; omega; rintro e w' ⟨rfl, rfl⟩))
  go_ret
  exact ⟨rfl, rfl⟩

/-- A callee that computes with new blocks alone. -/
def Gives (f : Nat) (args : Array Value) (v : Value) : Prop := ∀ W, Calls Tryz.prog f args W fun e w' => e = .returned v ∧ Below W.heap.size W w'
def zeroV : Value := .agg #[.int .i64 0, .int .i64 0, .int .u64 0, .string ⟨#[]⟩]
end Go.Proofs.YtifmfcaaofiboaaGreatDoor
namespace Go.Proofs.YtifmfcaaofiboaaGreatDoor
open Go.RowKit

set_option maxRecDepth 100000 in
set_option maxHeartbeats 1600000 in
theorem parseNull_no (s : ByteArray) (k i u : Int) (v : ByteArray) (w : World) (hk : ∀ W, Calls Tryz.prog 56 #[.string s] W fun e w' => e = .returned (.int .i64 0) ∧ W = w') (hr : Gives 69 #[.string s] (.tuple #[.agg #[.int .i64 k, .int .i64 i, .int .u64 u, .string v], .bool false])) :
    Calls Tryz.prog 40 #[.string s] w (IsErr2 110 zeroV w) := by
  obtain ⟨W1, hW1⟩ : ∃ W1, W1 = w.alloc (.cells #[.int .i64 0, .int .i64 0, .int .u64 0, .string ⟨#[]⟩] 25) := ⟨_, rfl⟩
  have hl : (Instr.lookup 91 (.map (some (w.heap.size + 1))) (.int .i64 0) false).run Tryz.prog (W1.alloc (.map mapKinds 5)) = .ok (kv 67 68 69) _ := kinds_got (by rw [show w.heap.size + 1 = W1.heap.size by rw [hW1]; simp]; exact heap_alloc_at _ _) rfl
  have hfl := fun W => field_read 67 68 69 W
  have hB1 : Below w.heap.size w (W1.alloc (.map mapKinds 5)) := by rw [hW1]; exact ((Below.refl _ _).alloc (Nat.le_refl _) _).alloc (by simp) _
  have hB1' : Below (w.heap.size + 1) W1 (W1.alloc (.map mapKinds 5)) := (Below.refl _ _).alloc (by rw [hW1]; simp) _
  have hz1 : (W1.alloc (.map mapKinds 5)).heap.size = w.heap.size + 2 := by rw [hW1]; simp
  have k0 : W1.cell? ⟨w.heap.size, 0, none⟩ = some (.int .i64 0) := by rw [hW1]; exact World.cell?_alloc_new _ _ _ 0
  have k1 : W1.cell? ⟨w.heap.size, 1, none⟩ = some (.int .i64 0) := by rw [hW1]; exact World.cell?_alloc_new _ _ _ 1
  have k2 : W1.cell? ⟨w.heap.size, 2, none⟩ = some (.int .u64 0) := by rw [hW1]; exact World.cell?_alloc_new _ _ _ 2
  have k3 : W1.cell? ⟨w.heap.size, 3, none⟩ = some (.string ⟨#[]⟩) := by rw [hW1]; exact World.cell?_alloc_new _ _ _ 3
  have kf : ∀ j, W1.frozen? ⟨w.heap.size, j, none⟩ = false := by rw [hW1]; simp
  have HK := Lib.hid hk
  have HR := Lib.hid hr
  have HB1 := Lib.hid hB1
  have HB1' := Lib.hid hB1'
  have HZ1 := Lib.hid hz1
  have HKs := Lib.hid (And.intro k0 (And.intro k1 (And.intro k2 (And.intro k3 kf))))
  clear hk hr hB1 hB1' hz1 k0 k1 k2 k3 kf
  subst hW1
  simp only [kv] at hl
  go_enter Tryz.func40, Tryz.ntmps40
  go_wp2_with (first | (go_at_call 48; refine (Of_any _ _ _).mono ?_; rintro e w' ⟨rfl, rfl⟩) | (go_at_call 47; refine (kinds_any _).mono ?_; rintro e w' ⟨rfl, rfl⟩) | (go_at_call 56; refine (HK.out _).mono ?_; rintro e w' ⟨rfl, rfl⟩))
  refine (HR.out _).mono ?_
  rintro e w2 ⟨rfl, hb2⟩
  obtain ⟨k0, k1, k2, k3, kf⟩ := HKs.out
  have hbx : Below (w.heap.size + 1) _ w2 := HB1'.out.trans (hb2.mono (by rw [HZ1.out]; omega))
  have hbw : Below w.heap.size w w2 := HB1.out.trans (hb2.mono (by rw [HZ1.out]; omega))
  have hsz : w.heap.size + 2 ≤ w2.heap.size := by have := hb2.size; rw [HZ1.out] at this; exact this
  have c0 : w2.cell? ⟨w.heap.size, 0, none⟩ = some (.int .i64 0) := (hbx.cell (p := ⟨w.heap.size, 0, none⟩) (by simp)).trans k0
  have c1 : w2.cell? ⟨w.heap.size, 1, none⟩ = some (.int .i64 0) := (hbx.cell (p := ⟨w.heap.size, 1, none⟩) (by simp)).trans k1
  have c2 : w2.cell? ⟨w.heap.size, 2, none⟩ = some (.int .u64 0) := (hbx.cell (p := ⟨w.heap.size, 2, none⟩) (by simp)).trans k2
  have c3 : w2.cell? ⟨w.heap.size, 3, none⟩ = some (.string ⟨#[]⟩) := (hbx.cell (p := ⟨w.heap.size, 3, none⟩) (by simp)).trans k3
  have f0 := (hbx.frozen (p := ⟨w.heap.size, 0, none⟩) (by simp)).trans (kf 0)
  have f1 := (hbx.frozen (p := ⟨w.heap.size, 1, none⟩) (by simp)).trans (kf 1)
  have f2 := (hbx.frozen (p := ⟨w.heap.size, 2, none⟩) (by simp)).trans (kf 2)
  have f3 := (hbx.frozen (p := ⟨w.heap.size, 3, none⟩) (by simp)).trans (kf 3)
  have hs0 : w.heap.size < w2.heap.size := by omega
  have hs1 : w.heap.size < w2.heap.size + 1 := by omega
  have hs2 : w.heap.size < w2.heap.size + 1 + 1 := by omega
  clear hl hfl k0 k1 k2 k3 kf hbx hb2
  have HBW := Lib.hid hbw
  clear hbw
  go_wp2_with (go_at_call 48; refine (Of_any _ _ _).mono ?_; rintro e w' ⟨rfl, rfl⟩)
  refine bodyPost_ret (v := .tuple #[zeroV, .iface 125 (.pointer (some ⟨w2.heap.size + 1, 0, none⟩))]) (by simp [zeroV, results, Tryz.results40, go_sem, c0, c1, c2, c3, hs0, hs1]) rfl ⟨w2.heap.size + 1, rfl, ?_, ?_⟩
  · simp [go_sem]
  · repeat' first | exact HBW.out | (refine Below.alloc ?_ (by simp; omega) _) | (refine Below.setCell ?_ (by simp) _)

set_option maxRecDepth 100000 in
set_option maxHeartbeats 1600000 in
theorem parseNull_ok (s : ByteArray) (k i u : Int) (v : ByteArray) (w : World) (hk : ∀ W, Calls Tryz.prog 56 #[.string s] W fun e w' => e = .returned (.int .i64 0) ∧ W = w') (hr : Gives 69 #[.string s] (.tuple #[.agg #[.int .i64 k, .int .i64 i, .int .u64 u, .string v], .bool true])) (hc : chk k i u v = 0) :
    Calls Tryz.prog 40 #[.string s] w (fun e w' => e = .returned (.tuple #[.agg #[.int .i64 k, .int .i64 i, .int .u64 u, .string v], .nilIface]) ∧ Below w.heap.size w w') := by
  obtain ⟨W1, hW1⟩ : ∃ W1, W1 = w.alloc (.cells #[.int .i64 0, .int .i64 0, .int .u64 0, .string ⟨#[]⟩] 25) := ⟨_, rfl⟩
  have hl : (Instr.lookup 91 (.map (some (w.heap.size + 1))) (.int .i64 0) false).run Tryz.prog (W1.alloc (.map mapKinds 5)) = .ok (kv 67 68 69) _ := kinds_got (by rw [show w.heap.size + 1 = W1.heap.size by rw [hW1]; simp]; exact heap_alloc_at _ _) rfl
  have hfl := fun W => field_read 67 68 69 W
  have hB1 : Below w.heap.size w (W1.alloc (.map mapKinds 5)) := by rw [hW1]; exact ((Below.refl _ _).alloc (Nat.le_refl _) _).alloc (by simp) _
  have hB1' : Below (w.heap.size + 1) W1 (W1.alloc (.map mapKinds 5)) := (Below.refl _ _).alloc (by rw [hW1]; simp) _
  have hz1 : (W1.alloc (.map mapKinds 5)).heap.size = w.heap.size + 2 := by rw [hW1]; simp
  have k0 : W1.cell? ⟨w.heap.size, 0, none⟩ = some (.int .i64 0) := by rw [hW1]; exact World.cell?_alloc_new _ _ _ 0
  have k1 : W1.cell? ⟨w.heap.size, 1, none⟩ = some (.int .i64 0) := by rw [hW1]; exact World.cell?_alloc_new _ _ _ 1
  have k2 : W1.cell? ⟨w.heap.size, 2, none⟩ = some (.int .u64 0) := by rw [hW1]; exact World.cell?_alloc_new _ _ _ 2
  have k3 : W1.cell? ⟨w.heap.size, 3, none⟩ = some (.string ⟨#[]⟩) := by rw [hW1]; exact World.cell?_alloc_new _ _ _ 3
  have kf : ∀ j, W1.frozen? ⟨w.heap.size, j, none⟩ = false := by rw [hW1]; simp
  have HK := Lib.hid hk
  have HR := Lib.hid hr
  have HB1 := Lib.hid hB1
  have HB1' := Lib.hid hB1'
  have HZ1 := Lib.hid hz1
  have HKs := Lib.hid (And.intro k0 (And.intro k1 (And.intro k2 (And.intro k3 kf))))
  have HC := Lib.hid hc
  clear hc
  clear hk hr hB1 hB1' hz1 k0 k1 k2 k3 kf
  subst hW1
  simp only [kv] at hl
  go_enter Tryz.func40, Tryz.ntmps40
  go_wp2_with (first | (go_at_call 48; refine (Of_any _ _ _).mono ?_; rintro e w' ⟨rfl, rfl⟩) | (go_at_call 47; refine (kinds_any _).mono ?_; rintro e w' ⟨rfl, rfl⟩) | (go_at_call 56; refine (HK.out _).mono ?_; rintro e w' ⟨rfl, rfl⟩))
  refine (HR.out _).mono ?_
  rintro e w2 ⟨rfl, hb2⟩
  obtain ⟨k0, k1, k2, k3, kf⟩ := HKs.out
  have hbx : Below (w.heap.size + 1) _ w2 := HB1'.out.trans (hb2.mono (by rw [HZ1.out]; omega))
  have hbw : Below w.heap.size w w2 := HB1.out.trans (hb2.mono (by rw [HZ1.out]; omega))
  have hsz : w.heap.size + 2 ≤ w2.heap.size := by have := hb2.size; rw [HZ1.out] at this; exact this
  have c0 : w2.cell? ⟨w.heap.size, 0, none⟩ = some (.int .i64 0) := (hbx.cell (p := ⟨w.heap.size, 0, none⟩) (by simp)).trans k0
  have c1 : w2.cell? ⟨w.heap.size, 1, none⟩ = some (.int .i64 0) := (hbx.cell (p := ⟨w.heap.size, 1, none⟩) (by simp)).trans k1
  have c2 : w2.cell? ⟨w.heap.size, 2, none⟩ = some (.int .u64 0) := (hbx.cell (p := ⟨w.heap.size, 2, none⟩) (by simp)).trans k2
  have c3 : w2.cell? ⟨w.heap.size, 3, none⟩ = some (.string ⟨#[]⟩) := (hbx.cell (p := ⟨w.heap.size, 3, none⟩) (by simp)).trans k3
  have f0 := (hbx.frozen (p := ⟨w.heap.size, 0, none⟩) (by simp)).trans (kf 0)
  have f1 := (hbx.frozen (p := ⟨w.heap.size, 1, none⟩) (by simp)).trans (kf 1)
  have f2 := (hbx.frozen (p := ⟨w.heap.size, 2, none⟩) (by simp)).trans (kf 2)
  have f3 := (hbx.frozen (p := ⟨w.heap.size, 3, none⟩) (by simp)).trans (kf 3)
  have hs0 : w.heap.size < w2.heap.size := by omega
  have hs1 : w.heap.size < w2.heap.size + 1 := by omega
  have hs2 : w.heap.size < w2.heap.size + 1 + 1 := by omega
  clear hl hfl k0 k1 k2 k3 kf hbx hb2
  have HBW := Lib.hid hbw
  clear hbw
  go_wp2_with (go_at_call 48; refine (Of_any _ _ _).mono ?_; rintro e w' ⟨rfl, rfl⟩)
  refine (check_zero _ _ _ _ _ HC.out).mono ?_
  rintro e w3 ⟨rfl, hb3⟩
  have hbz : Below (w2.heap.size + 1) (w2.alloc (.cells #[.int .i64 k, .int .i64 i, .int .u64 u, .string v] 25)) w3 := hb3.mono (by simp)
  have d0 : w3.cell? ⟨w.heap.size, 0, none⟩ = some (.int .i64 0) := (hbz.cell (p := ⟨w.heap.size, 0, none⟩) (by simp; omega)).trans ((World.cell?_alloc_lt _ _ _ hs0).trans c0)
  have d1 : w3.cell? ⟨w.heap.size, 1, none⟩ = some (.int .i64 0) := (hbz.cell (p := ⟨w.heap.size, 1, none⟩) (by simp; omega)).trans ((World.cell?_alloc_lt _ _ _ hs0).trans c1)
  have d2 : w3.cell? ⟨w.heap.size, 2, none⟩ = some (.int .u64 0) := (hbz.cell (p := ⟨w.heap.size, 2, none⟩) (by simp; omega)).trans ((World.cell?_alloc_lt _ _ _ hs0).trans c2)
  have d3 : w3.cell? ⟨w.heap.size, 3, none⟩ = some (.string ⟨#[]⟩) := (hbz.cell (p := ⟨w.heap.size, 3, none⟩) (by simp; omega)).trans ((World.cell?_alloc_lt _ _ _ hs0).trans c3)
  have e0 : w3.frozen? ⟨w.heap.size, 0, none⟩ = false := (hbz.frozen (p := ⟨w.heap.size, 0, none⟩) (by simp; omega)).trans ((World.frozen?_alloc_old _ _ _ (Nat.ne_of_lt hs0)).trans f0)
  have e1 : w3.frozen? ⟨w.heap.size, 1, none⟩ = false := (hbz.frozen (p := ⟨w.heap.size, 1, none⟩) (by simp; omega)).trans ((World.frozen?_alloc_old _ _ _ (Nat.ne_of_lt hs0)).trans f1)
  have e2 : w3.frozen? ⟨w.heap.size, 2, none⟩ = false := (hbz.frozen (p := ⟨w.heap.size, 2, none⟩) (by simp; omega)).trans ((World.frozen?_alloc_old _ _ _ (Nat.ne_of_lt hs0)).trans f2)
  have e3 : w3.frozen? ⟨w.heap.size, 3, none⟩ = false := (hbz.frozen (p := ⟨w.heap.size, 3, none⟩) (by simp; omega)).trans ((World.frozen?_alloc_old _ _ _ (Nat.ne_of_lt hs0)).trans f3)
  have v0 : w3.cell? ⟨w2.heap.size, 0, none⟩ = some (.int .i64 k) := (hbz.cell (p := ⟨w2.heap.size, 0, none⟩) (by simp)).trans (World.cell?_alloc_new _ _ _ 0)
  have v1 : w3.cell? ⟨w2.heap.size, 1, none⟩ = some (.int .i64 i) := (hbz.cell (p := ⟨w2.heap.size, 1, none⟩) (by simp)).trans (World.cell?_alloc_new _ _ _ 1)
  have v2 : w3.cell? ⟨w2.heap.size, 2, none⟩ = some (.int .u64 u) := (hbz.cell (p := ⟨w2.heap.size, 2, none⟩) (by simp)).trans (World.cell?_alloc_new _ _ _ 2)
  have v3 : w3.cell? ⟨w2.heap.size, 3, none⟩ = some (.string v) := (hbz.cell (p := ⟨w2.heap.size, 3, none⟩) (by simp)).trans (World.cell?_alloc_new _ _ _ 3)
  have hbw3 : Below w.heap.size w w3 := (HBW.out.alloc (by omega) _).trans (hb3.mono (by simp; omega))
  have HBW3 := Lib.hid hbw3
  clear c0 c1 c2 c3 f0 f1 f2 f3 hb3 hbz hbw3
  go_wp2_with (go_at_call 48; refine (Of_any _ _ _).mono ?_; rintro e w' ⟨rfl, rfl⟩)
  refine bodyPost_ret (v := .tuple #[.agg #[.int .i64 k, .int .i64 i, .int .u64 u, .string v], .nilIface]) (by simp [results, Tryz.results40, go_sem, d0, d1, d2, d3]) rfl ⟨rfl, ?_⟩
  repeat' first | exact HBW3.out | (refine Below.setCell ?_ (by simp) _)

set_option maxRecDepth 100000 in
set_option maxHeartbeats 1600000 in
theorem parseNull_bad (s : ByteArray) (k i u : Int) (v : ByteArray) (w : World) (hk : ∀ W, Calls Tryz.prog 56 #[.string s] W fun e w' => e = .returned (.int .i64 0) ∧ W = w') (hr : Gives 69 #[.string s] (.tuple #[.agg #[.int .i64 k, .int .i64 i, .int .u64 u, .string v], .bool true])) (n : Int) (hc : chk k i u v = n) (hn : n ≠ 0) :
    Calls Tryz.prog 40 #[.string s] w (IsErr2 n zeroV w) := by
  obtain ⟨W1, hW1⟩ : ∃ W1, W1 = w.alloc (.cells #[.int .i64 0, .int .i64 0, .int .u64 0, .string ⟨#[]⟩] 25) := ⟨_, rfl⟩
  have hl : (Instr.lookup 91 (.map (some (w.heap.size + 1))) (.int .i64 0) false).run Tryz.prog (W1.alloc (.map mapKinds 5)) = .ok (kv 67 68 69) _ := kinds_got (by rw [show w.heap.size + 1 = W1.heap.size by rw [hW1]; simp]; exact heap_alloc_at _ _) rfl
  have hfl := fun W => field_read 67 68 69 W
  have hB1 : Below w.heap.size w (W1.alloc (.map mapKinds 5)) := by rw [hW1]; exact ((Below.refl _ _).alloc (Nat.le_refl _) _).alloc (by simp) _
  have hB1' : Below (w.heap.size + 1) W1 (W1.alloc (.map mapKinds 5)) := (Below.refl _ _).alloc (by rw [hW1]; simp) _
  have hz1 : (W1.alloc (.map mapKinds 5)).heap.size = w.heap.size + 2 := by rw [hW1]; simp
  have k0 : W1.cell? ⟨w.heap.size, 0, none⟩ = some (.int .i64 0) := by rw [hW1]; exact World.cell?_alloc_new _ _ _ 0
  have k1 : W1.cell? ⟨w.heap.size, 1, none⟩ = some (.int .i64 0) := by rw [hW1]; exact World.cell?_alloc_new _ _ _ 1
  have k2 : W1.cell? ⟨w.heap.size, 2, none⟩ = some (.int .u64 0) := by rw [hW1]; exact World.cell?_alloc_new _ _ _ 2
  have k3 : W1.cell? ⟨w.heap.size, 3, none⟩ = some (.string ⟨#[]⟩) := by rw [hW1]; exact World.cell?_alloc_new _ _ _ 3
  have kf : ∀ j, W1.frozen? ⟨w.heap.size, j, none⟩ = false := by rw [hW1]; simp
  have HK := Lib.hid hk
  have HR := Lib.hid hr
  have HB1 := Lib.hid hB1
  have HB1' := Lib.hid hB1'
  have HZ1 := Lib.hid hz1
  have HKs := Lib.hid (And.intro k0 (And.intro k1 (And.intro k2 (And.intro k3 kf))))
  have HC := Lib.hid hc
  clear hc
  have HN := Lib.hid hn
  clear hn
  clear hk hr hB1 hB1' hz1 k0 k1 k2 k3 kf
  subst hW1
  simp only [kv] at hl
  go_enter Tryz.func40, Tryz.ntmps40
  go_wp2_with (first | (go_at_call 48; refine (Of_any _ _ _).mono ?_; rintro e w' ⟨rfl, rfl⟩) | (go_at_call 47; refine (kinds_any _).mono ?_; rintro e w' ⟨rfl, rfl⟩) | (go_at_call 56; refine (HK.out _).mono ?_; rintro e w' ⟨rfl, rfl⟩))
  refine (HR.out _).mono ?_
  rintro e w2 ⟨rfl, hb2⟩
  obtain ⟨k0, k1, k2, k3, kf⟩ := HKs.out
  have hbx : Below (w.heap.size + 1) _ w2 := HB1'.out.trans (hb2.mono (by rw [HZ1.out]; omega))
  have hbw : Below w.heap.size w w2 := HB1.out.trans (hb2.mono (by rw [HZ1.out]; omega))
  have hsz : w.heap.size + 2 ≤ w2.heap.size := by have := hb2.size; rw [HZ1.out] at this; exact this
  have c0 : w2.cell? ⟨w.heap.size, 0, none⟩ = some (.int .i64 0) := (hbx.cell (p := ⟨w.heap.size, 0, none⟩) (by simp)).trans k0
  have c1 : w2.cell? ⟨w.heap.size, 1, none⟩ = some (.int .i64 0) := (hbx.cell (p := ⟨w.heap.size, 1, none⟩) (by simp)).trans k1
  have c2 : w2.cell? ⟨w.heap.size, 2, none⟩ = some (.int .u64 0) := (hbx.cell (p := ⟨w.heap.size, 2, none⟩) (by simp)).trans k2
  have c3 : w2.cell? ⟨w.heap.size, 3, none⟩ = some (.string ⟨#[]⟩) := (hbx.cell (p := ⟨w.heap.size, 3, none⟩) (by simp)).trans k3
  have f0 := (hbx.frozen (p := ⟨w.heap.size, 0, none⟩) (by simp)).trans (kf 0)
  have f1 := (hbx.frozen (p := ⟨w.heap.size, 1, none⟩) (by simp)).trans (kf 1)
  have f2 := (hbx.frozen (p := ⟨w.heap.size, 2, none⟩) (by simp)).trans (kf 2)
  have f3 := (hbx.frozen (p := ⟨w.heap.size, 3, none⟩) (by simp)).trans (kf 3)
  have hs0 : w.heap.size < w2.heap.size := by omega
  have hs1 : w.heap.size < w2.heap.size + 1 := by omega
  have hs2 : w.heap.size < w2.heap.size + 1 + 1 := by omega
  clear hl hfl k0 k1 k2 k3 kf hbx hb2
  have HBW := Lib.hid hbw
  clear hbw
  go_wp2_with (go_at_call 48; refine (Of_any _ _ _).mono ?_; rintro e w' ⟨rfl, rfl⟩)
  refine (check_err _ _ _ _ _ _ HC.out HN.out).mono ?_
  rintro e w3 ⟨b, rfl, hbb, hcb, hb3⟩
  have hbz : Below (w2.heap.size + 1) (w2.alloc (.cells #[.int .i64 k, .int .i64 i, .int .u64 u, .string v] 25)) w3 := hb3.mono (by simp)
  have d0 : w3.cell? ⟨w.heap.size, 0, none⟩ = some (.int .i64 0) := (hbz.cell (p := ⟨w.heap.size, 0, none⟩) (by simp; omega)).trans ((World.cell?_alloc_lt _ _ _ hs0).trans c0)
  have d1 : w3.cell? ⟨w.heap.size, 1, none⟩ = some (.int .i64 0) := (hbz.cell (p := ⟨w.heap.size, 1, none⟩) (by simp; omega)).trans ((World.cell?_alloc_lt _ _ _ hs0).trans c1)
  have d2 : w3.cell? ⟨w.heap.size, 2, none⟩ = some (.int .u64 0) := (hbz.cell (p := ⟨w.heap.size, 2, none⟩) (by simp; omega)).trans ((World.cell?_alloc_lt _ _ _ hs0).trans c2)
  have d3 : w3.cell? ⟨w.heap.size, 3, none⟩ = some (.string ⟨#[]⟩) := (hbz.cell (p := ⟨w.heap.size, 3, none⟩) (by simp; omega)).trans ((World.cell?_alloc_lt _ _ _ hs0).trans c3)
  have e0 : w3.frozen? ⟨w.heap.size, 0, none⟩ = false := (hbz.frozen (p := ⟨w.heap.size, 0, none⟩) (by simp; omega)).trans ((World.frozen?_alloc_old _ _ _ (Nat.ne_of_lt hs0)).trans f0)
  have e1 : w3.frozen? ⟨w.heap.size, 1, none⟩ = false := (hbz.frozen (p := ⟨w.heap.size, 1, none⟩) (by simp; omega)).trans ((World.frozen?_alloc_old _ _ _ (Nat.ne_of_lt hs0)).trans f1)
  have e2 : w3.frozen? ⟨w.heap.size, 2, none⟩ = false := (hbz.frozen (p := ⟨w.heap.size, 2, none⟩) (by simp; omega)).trans ((World.frozen?_alloc_old _ _ _ (Nat.ne_of_lt hs0)).trans f2)
  have e3 : w3.frozen? ⟨w.heap.size, 3, none⟩ = false := (hbz.frozen (p := ⟨w.heap.size, 3, none⟩) (by simp; omega)).trans ((World.frozen?_alloc_old _ _ _ (Nat.ne_of_lt hs0)).trans f3)
  have v0 : w3.cell? ⟨w2.heap.size, 0, none⟩ = some (.int .i64 k) := (hbz.cell (p := ⟨w2.heap.size, 0, none⟩) (by simp)).trans (World.cell?_alloc_new _ _ _ 0)
  have v1 : w3.cell? ⟨w2.heap.size, 1, none⟩ = some (.int .i64 i) := (hbz.cell (p := ⟨w2.heap.size, 1, none⟩) (by simp)).trans (World.cell?_alloc_new _ _ _ 1)
  have v2 : w3.cell? ⟨w2.heap.size, 2, none⟩ = some (.int .u64 u) := (hbz.cell (p := ⟨w2.heap.size, 2, none⟩) (by simp)).trans (World.cell?_alloc_new _ _ _ 2)
  have v3 : w3.cell? ⟨w2.heap.size, 3, none⟩ = some (.string v) := (hbz.cell (p := ⟨w2.heap.size, 3, none⟩) (by simp)).trans (World.cell?_alloc_new _ _ _ 3)
  have hbw3 : Below w.heap.size w w3 := (HBW.out.alloc (by omega) _).trans (hb3.mono (by simp; omega))
  have HBW3 := Lib.hid hbw3
  have hbb' : w.heap.size ≠ b := by simp at hbb; omega
  clear c0 c1 c2 c3 f0 f1 f2 f3 hb3 hbz hbw3
  go_wp2_with (go_at_call 48; refine (Of_any _ _ _).mono ?_; rintro e w' ⟨rfl, rfl⟩)
  refine bodyPost_ret (v := .tuple #[zeroV, .iface 125 (.pointer (some ⟨b, 0, none⟩))]) (by simp [zeroV, results, Tryz.results40, go_sem, d0, d1, d2, d3]) rfl ⟨b, rfl, ?_, ?_⟩
  · simp [go_sem, hcb]
  · repeat' first | exact HBW3.out | (refine Below.setCell ?_ (by simp) _)
end Go.Proofs.YtifmfcaaofiboaaGreatDoor
namespace Go.Proofs.YtifmfcaaofiboaaGreatDoor
open Go.RowKit

set_option maxRecDepth 100000 in
set_option maxHeartbeats 1600000 in
theorem parseInt_no (s : ByteArray) (k i u : Int) (v : ByteArray) (w : World) (hk : ∀ W, Calls Tryz.prog 56 #[.string s] W fun e w' => e = .returned (.int .i64 1) ∧ W = w') (hr : Gives 72 #[.string s] (.tuple #[.agg #[.int .i64 k, .int .i64 i, .int .u64 u, .string v], .bool false])) :
    Calls Tryz.prog 40 #[.string s] w (IsErr2 110 zeroV w) := by
  obtain ⟨W1, hW1⟩ : ∃ W1, W1 = w.alloc (.cells #[.int .i64 0, .int .i64 0, .int .u64 0, .string ⟨#[]⟩] 25) := ⟨_, rfl⟩
  have hl : (Instr.lookup 91 (.map (some (w.heap.size + 1))) (.int .i64 1) false).run Tryz.prog (W1.alloc (.map mapKinds 5)) = .ok (kv 70 71 72) _ := kinds_got (by rw [show w.heap.size + 1 = W1.heap.size by rw [hW1]; simp]; exact heap_alloc_at _ _) rfl
  have hfl := fun W => field_read 70 71 72 W
  have hB1 : Below w.heap.size w (W1.alloc (.map mapKinds 5)) := by rw [hW1]; exact ((Below.refl _ _).alloc (Nat.le_refl _) _).alloc (by simp) _
  have hB1' : Below (w.heap.size + 1) W1 (W1.alloc (.map mapKinds 5)) := (Below.refl _ _).alloc (by rw [hW1]; simp) _
  have hz1 : (W1.alloc (.map mapKinds 5)).heap.size = w.heap.size + 2 := by rw [hW1]; simp
  have k0 : W1.cell? ⟨w.heap.size, 0, none⟩ = some (.int .i64 0) := by rw [hW1]; exact World.cell?_alloc_new _ _ _ 0
  have k1 : W1.cell? ⟨w.heap.size, 1, none⟩ = some (.int .i64 0) := by rw [hW1]; exact World.cell?_alloc_new _ _ _ 1
  have k2 : W1.cell? ⟨w.heap.size, 2, none⟩ = some (.int .u64 0) := by rw [hW1]; exact World.cell?_alloc_new _ _ _ 2
  have k3 : W1.cell? ⟨w.heap.size, 3, none⟩ = some (.string ⟨#[]⟩) := by rw [hW1]; exact World.cell?_alloc_new _ _ _ 3
  have kf : ∀ j, W1.frozen? ⟨w.heap.size, j, none⟩ = false := by rw [hW1]; simp
  have HK := Lib.hid hk
  have HR := Lib.hid hr
  have HB1 := Lib.hid hB1
  have HB1' := Lib.hid hB1'
  have HZ1 := Lib.hid hz1
  have HKs := Lib.hid (And.intro k0 (And.intro k1 (And.intro k2 (And.intro k3 kf))))
  clear hk hr hB1 hB1' hz1 k0 k1 k2 k3 kf
  subst hW1
  simp only [kv] at hl
  go_enter Tryz.func40, Tryz.ntmps40
  go_wp2_with (first | (go_at_call 48; refine (Of_any _ _ _).mono ?_; rintro e w' ⟨rfl, rfl⟩) | (go_at_call 47; refine (kinds_any _).mono ?_; rintro e w' ⟨rfl, rfl⟩) | (go_at_call 56; refine (HK.out _).mono ?_; rintro e w' ⟨rfl, rfl⟩))
  refine (HR.out _).mono ?_
  rintro e w2 ⟨rfl, hb2⟩
  obtain ⟨k0, k1, k2, k3, kf⟩ := HKs.out
  have hbx : Below (w.heap.size + 1) _ w2 := HB1'.out.trans (hb2.mono (by rw [HZ1.out]; omega))
  have hbw : Below w.heap.size w w2 := HB1.out.trans (hb2.mono (by rw [HZ1.out]; omega))
  have hsz : w.heap.size + 2 ≤ w2.heap.size := by have := hb2.size; rw [HZ1.out] at this; exact this
  have c0 : w2.cell? ⟨w.heap.size, 0, none⟩ = some (.int .i64 0) := (hbx.cell (p := ⟨w.heap.size, 0, none⟩) (by simp)).trans k0
  have c1 : w2.cell? ⟨w.heap.size, 1, none⟩ = some (.int .i64 0) := (hbx.cell (p := ⟨w.heap.size, 1, none⟩) (by simp)).trans k1
  have c2 : w2.cell? ⟨w.heap.size, 2, none⟩ = some (.int .u64 0) := (hbx.cell (p := ⟨w.heap.size, 2, none⟩) (by simp)).trans k2
  have c3 : w2.cell? ⟨w.heap.size, 3, none⟩ = some (.string ⟨#[]⟩) := (hbx.cell (p := ⟨w.heap.size, 3, none⟩) (by simp)).trans k3
  have f0 := (hbx.frozen (p := ⟨w.heap.size, 0, none⟩) (by simp)).trans (kf 0)
  have f1 := (hbx.frozen (p := ⟨w.heap.size, 1, none⟩) (by simp)).trans (kf 1)
  have f2 := (hbx.frozen (p := ⟨w.heap.size, 2, none⟩) (by simp)).trans (kf 2)
  have f3 := (hbx.frozen (p := ⟨w.heap.size, 3, none⟩) (by simp)).trans (kf 3)
  have hs0 : w.heap.size < w2.heap.size := by omega
  have hs1 : w.heap.size < w2.heap.size + 1 := by omega
  have hs2 : w.heap.size < w2.heap.size + 1 + 1 := by omega
  clear hl hfl k0 k1 k2 k3 kf hbx hb2
  have HBW := Lib.hid hbw
  clear hbw
  go_wp2_with (go_at_call 48; refine (Of_any _ _ _).mono ?_; rintro e w' ⟨rfl, rfl⟩)
  refine bodyPost_ret (v := .tuple #[zeroV, .iface 125 (.pointer (some ⟨w2.heap.size + 1, 0, none⟩))]) (by simp [zeroV, results, Tryz.results40, go_sem, c0, c1, c2, c3, hs0, hs1]) rfl ⟨w2.heap.size + 1, rfl, ?_, ?_⟩
  · simp [go_sem]
  · repeat' first | exact HBW.out | (refine Below.alloc ?_ (by simp; omega) _) | (refine Below.setCell ?_ (by simp) _)

set_option maxRecDepth 100000 in
set_option maxHeartbeats 1600000 in
theorem parseInt_ok (s : ByteArray) (k i u : Int) (v : ByteArray) (w : World) (hk : ∀ W, Calls Tryz.prog 56 #[.string s] W fun e w' => e = .returned (.int .i64 1) ∧ W = w') (hr : Gives 72 #[.string s] (.tuple #[.agg #[.int .i64 k, .int .i64 i, .int .u64 u, .string v], .bool true])) (hc : chk k i u v = 0) :
    Calls Tryz.prog 40 #[.string s] w (fun e w' => e = .returned (.tuple #[.agg #[.int .i64 k, .int .i64 i, .int .u64 u, .string v], .nilIface]) ∧ Below w.heap.size w w') := by
  obtain ⟨W1, hW1⟩ : ∃ W1, W1 = w.alloc (.cells #[.int .i64 0, .int .i64 0, .int .u64 0, .string ⟨#[]⟩] 25) := ⟨_, rfl⟩
  have hl : (Instr.lookup 91 (.map (some (w.heap.size + 1))) (.int .i64 1) false).run Tryz.prog (W1.alloc (.map mapKinds 5)) = .ok (kv 70 71 72) _ := kinds_got (by rw [show w.heap.size + 1 = W1.heap.size by rw [hW1]; simp]; exact heap_alloc_at _ _) rfl
  have hfl := fun W => field_read 70 71 72 W
  have hB1 : Below w.heap.size w (W1.alloc (.map mapKinds 5)) := by rw [hW1]; exact ((Below.refl _ _).alloc (Nat.le_refl _) _).alloc (by simp) _
  have hB1' : Below (w.heap.size + 1) W1 (W1.alloc (.map mapKinds 5)) := (Below.refl _ _).alloc (by rw [hW1]; simp) _
  have hz1 : (W1.alloc (.map mapKinds 5)).heap.size = w.heap.size + 2 := by rw [hW1]; simp
  have k0 : W1.cell? ⟨w.heap.size, 0, none⟩ = some (.int .i64 0) := by rw [hW1]; exact World.cell?_alloc_new _ _ _ 0
  have k1 : W1.cell? ⟨w.heap.size, 1, none⟩ = some (.int .i64 0) := by rw [hW1]; exact World.cell?_alloc_new _ _ _ 1
  have k2 : W1.cell? ⟨w.heap.size, 2, none⟩ = some (.int .u64 0) := by rw [hW1]; exact World.cell?_alloc_new _ _ _ 2
  have k3 : W1.cell? ⟨w.heap.size, 3, none⟩ = some (.string ⟨#[]⟩) := by rw [hW1]; exact World.cell?_alloc_new _ _ _ 3
  have kf : ∀ j, W1.frozen? ⟨w.heap.size, j, none⟩ = false := by rw [hW1]; simp
  have HK := Lib.hid hk
  have HR := Lib.hid hr
  have HB1 := Lib.hid hB1
  have HB1' := Lib.hid hB1'
  have HZ1 := Lib.hid hz1
  have HKs := Lib.hid (And.intro k0 (And.intro k1 (And.intro k2 (And.intro k3 kf))))
  have HC := Lib.hid hc
  clear hc
  clear hk hr hB1 hB1' hz1 k0 k1 k2 k3 kf
  subst hW1
  simp only [kv] at hl
  go_enter Tryz.func40, Tryz.ntmps40
  go_wp2_with (first | (go_at_call 48; refine (Of_any _ _ _).mono ?_; rintro e w' ⟨rfl, rfl⟩) | (go_at_call 47; refine (kinds_any _).mono ?_; rintro e w' ⟨rfl, rfl⟩) | (go_at_call 56; refine (HK.out _).mono ?_; rintro e w' ⟨rfl, rfl⟩))
  refine (HR.out _).mono ?_
  rintro e w2 ⟨rfl, hb2⟩
  obtain ⟨k0, k1, k2, k3, kf⟩ := HKs.out
  have hbx : Below (w.heap.size + 1) _ w2 := HB1'.out.trans (hb2.mono (by rw [HZ1.out]; omega))
  have hbw : Below w.heap.size w w2 := HB1.out.trans (hb2.mono (by rw [HZ1.out]; omega))
  have hsz : w.heap.size + 2 ≤ w2.heap.size := by have := hb2.size; rw [HZ1.out] at this; exact this
  have c0 : w2.cell? ⟨w.heap.size, 0, none⟩ = some (.int .i64 0) := (hbx.cell (p := ⟨w.heap.size, 0, none⟩) (by simp)).trans k0
  have c1 : w2.cell? ⟨w.heap.size, 1, none⟩ = some (.int .i64 0) := (hbx.cell (p := ⟨w.heap.size, 1, none⟩) (by simp)).trans k1
  have c2 : w2.cell? ⟨w.heap.size, 2, none⟩ = some (.int .u64 0) := (hbx.cell (p := ⟨w.heap.size, 2, none⟩) (by simp)).trans k2
  have c3 : w2.cell? ⟨w.heap.size, 3, none⟩ = some (.string ⟨#[]⟩) := (hbx.cell (p := ⟨w.heap.size, 3, none⟩) (by simp)).trans k3
  have f0 := (hbx.frozen (p := ⟨w.heap.size, 0, none⟩) (by simp)).trans (kf 0)
  have f1 := (hbx.frozen (p := ⟨w.heap.size, 1, none⟩) (by simp)).trans (kf 1)
  have f2 := (hbx.frozen (p := ⟨w.heap.size, 2, none⟩) (by simp)).trans (kf 2)
  have f3 := (hbx.frozen (p := ⟨w.heap.size, 3, none⟩) (by simp)).trans (kf 3)
  have hs0 : w.heap.size < w2.heap.size := by omega
  have hs1 : w.heap.size < w2.heap.size + 1 := by omega
  have hs2 : w.heap.size < w2.heap.size + 1 + 1 := by omega
  clear hl hfl k0 k1 k2 k3 kf hbx hb2
  have HBW := Lib.hid hbw
  clear hbw
  go_wp2_with (go_at_call 48; refine (Of_any _ _ _).mono ?_; rintro e w' ⟨rfl, rfl⟩)
  refine (check_zero _ _ _ _ _ HC.out).mono ?_
  rintro e w3 ⟨rfl, hb3⟩
  have hbz : Below (w2.heap.size + 1) (w2.alloc (.cells #[.int .i64 k, .int .i64 i, .int .u64 u, .string v] 25)) w3 := hb3.mono (by simp)
  have d0 : w3.cell? ⟨w.heap.size, 0, none⟩ = some (.int .i64 0) := (hbz.cell (p := ⟨w.heap.size, 0, none⟩) (by simp; omega)).trans ((World.cell?_alloc_lt _ _ _ hs0).trans c0)
  have d1 : w3.cell? ⟨w.heap.size, 1, none⟩ = some (.int .i64 0) := (hbz.cell (p := ⟨w.heap.size, 1, none⟩) (by simp; omega)).trans ((World.cell?_alloc_lt _ _ _ hs0).trans c1)
  have d2 : w3.cell? ⟨w.heap.size, 2, none⟩ = some (.int .u64 0) := (hbz.cell (p := ⟨w.heap.size, 2, none⟩) (by simp; omega)).trans ((World.cell?_alloc_lt _ _ _ hs0).trans c2)
  have d3 : w3.cell? ⟨w.heap.size, 3, none⟩ = some (.string ⟨#[]⟩) := (hbz.cell (p := ⟨w.heap.size, 3, none⟩) (by simp; omega)).trans ((World.cell?_alloc_lt _ _ _ hs0).trans c3)
  have e0 : w3.frozen? ⟨w.heap.size, 0, none⟩ = false := (hbz.frozen (p := ⟨w.heap.size, 0, none⟩) (by simp; omega)).trans ((World.frozen?_alloc_old _ _ _ (Nat.ne_of_lt hs0)).trans f0)
  have e1 : w3.frozen? ⟨w.heap.size, 1, none⟩ = false := (hbz.frozen (p := ⟨w.heap.size, 1, none⟩) (by simp; omega)).trans ((World.frozen?_alloc_old _ _ _ (Nat.ne_of_lt hs0)).trans f1)
  have e2 : w3.frozen? ⟨w.heap.size, 2, none⟩ = false := (hbz.frozen (p := ⟨w.heap.size, 2, none⟩) (by simp; omega)).trans ((World.frozen?_alloc_old _ _ _ (Nat.ne_of_lt hs0)).trans f2)
  have e3 : w3.frozen? ⟨w.heap.size, 3, none⟩ = false := (hbz.frozen (p := ⟨w.heap.size, 3, none⟩) (by simp; omega)).trans ((World.frozen?_alloc_old _ _ _ (Nat.ne_of_lt hs0)).trans f3)
  have v0 : w3.cell? ⟨w2.heap.size, 0, none⟩ = some (.int .i64 k) := (hbz.cell (p := ⟨w2.heap.size, 0, none⟩) (by simp)).trans (World.cell?_alloc_new _ _ _ 0)
  have v1 : w3.cell? ⟨w2.heap.size, 1, none⟩ = some (.int .i64 i) := (hbz.cell (p := ⟨w2.heap.size, 1, none⟩) (by simp)).trans (World.cell?_alloc_new _ _ _ 1)
  have v2 : w3.cell? ⟨w2.heap.size, 2, none⟩ = some (.int .u64 u) := (hbz.cell (p := ⟨w2.heap.size, 2, none⟩) (by simp)).trans (World.cell?_alloc_new _ _ _ 2)
  have v3 : w3.cell? ⟨w2.heap.size, 3, none⟩ = some (.string v) := (hbz.cell (p := ⟨w2.heap.size, 3, none⟩) (by simp)).trans (World.cell?_alloc_new _ _ _ 3)
  have hbw3 : Below w.heap.size w w3 := (HBW.out.alloc (by omega) _).trans (hb3.mono (by simp; omega))
  have HBW3 := Lib.hid hbw3
  clear c0 c1 c2 c3 f0 f1 f2 f3 hb3 hbz hbw3
  go_wp2_with (go_at_call 48; refine (Of_any _ _ _).mono ?_; rintro e w' ⟨rfl, rfl⟩)
  refine bodyPost_ret (v := .tuple #[.agg #[.int .i64 k, .int .i64 i, .int .u64 u, .string v], .nilIface]) (by simp [results, Tryz.results40, go_sem, d0, d1, d2, d3]) rfl ⟨rfl, ?_⟩
  repeat' first | exact HBW3.out | (refine Below.setCell ?_ (by simp) _)

set_option maxRecDepth 100000 in
set_option maxHeartbeats 1600000 in
theorem parseInt_bad (s : ByteArray) (k i u : Int) (v : ByteArray) (w : World) (hk : ∀ W, Calls Tryz.prog 56 #[.string s] W fun e w' => e = .returned (.int .i64 1) ∧ W = w') (hr : Gives 72 #[.string s] (.tuple #[.agg #[.int .i64 k, .int .i64 i, .int .u64 u, .string v], .bool true])) (n : Int) (hc : chk k i u v = n) (hn : n ≠ 0) :
    Calls Tryz.prog 40 #[.string s] w (IsErr2 n zeroV w) := by
  obtain ⟨W1, hW1⟩ : ∃ W1, W1 = w.alloc (.cells #[.int .i64 0, .int .i64 0, .int .u64 0, .string ⟨#[]⟩] 25) := ⟨_, rfl⟩
  have hl : (Instr.lookup 91 (.map (some (w.heap.size + 1))) (.int .i64 1) false).run Tryz.prog (W1.alloc (.map mapKinds 5)) = .ok (kv 70 71 72) _ := kinds_got (by rw [show w.heap.size + 1 = W1.heap.size by rw [hW1]; simp]; exact heap_alloc_at _ _) rfl
  have hfl := fun W => field_read 70 71 72 W
  have hB1 : Below w.heap.size w (W1.alloc (.map mapKinds 5)) := by rw [hW1]; exact ((Below.refl _ _).alloc (Nat.le_refl _) _).alloc (by simp) _
  have hB1' : Below (w.heap.size + 1) W1 (W1.alloc (.map mapKinds 5)) := (Below.refl _ _).alloc (by rw [hW1]; simp) _
  have hz1 : (W1.alloc (.map mapKinds 5)).heap.size = w.heap.size + 2 := by rw [hW1]; simp
  have k0 : W1.cell? ⟨w.heap.size, 0, none⟩ = some (.int .i64 0) := by rw [hW1]; exact World.cell?_alloc_new _ _ _ 0
  have k1 : W1.cell? ⟨w.heap.size, 1, none⟩ = some (.int .i64 0) := by rw [hW1]; exact World.cell?_alloc_new _ _ _ 1
  have k2 : W1.cell? ⟨w.heap.size, 2, none⟩ = some (.int .u64 0) := by rw [hW1]; exact World.cell?_alloc_new _ _ _ 2
  have k3 : W1.cell? ⟨w.heap.size, 3, none⟩ = some (.string ⟨#[]⟩) := by rw [hW1]; exact World.cell?_alloc_new _ _ _ 3
  have kf : ∀ j, W1.frozen? ⟨w.heap.size, j, none⟩ = false := by rw [hW1]; simp
  have HK := Lib.hid hk
  have HR := Lib.hid hr
  have HB1 := Lib.hid hB1
  have HB1' := Lib.hid hB1'
  have HZ1 := Lib.hid hz1
  have HKs := Lib.hid (And.intro k0 (And.intro k1 (And.intro k2 (And.intro k3 kf))))
  have HC := Lib.hid hc
  clear hc
  have HN := Lib.hid hn
  clear hn
  clear hk hr hB1 hB1' hz1 k0 k1 k2 k3 kf
  subst hW1
  simp only [kv] at hl
  go_enter Tryz.func40, Tryz.ntmps40
  go_wp2_with (first | (go_at_call 48; refine (Of_any _ _ _).mono ?_; rintro e w' ⟨rfl, rfl⟩) | (go_at_call 47; refine (kinds_any _).mono ?_; rintro e w' ⟨rfl, rfl⟩) | (go_at_call 56; refine (HK.out _).mono ?_; rintro e w' ⟨rfl, rfl⟩))
  refine (HR.out _).mono ?_
  rintro e w2 ⟨rfl, hb2⟩
  obtain ⟨k0, k1, k2, k3, kf⟩ := HKs.out
  have hbx : Below (w.heap.size + 1) _ w2 := HB1'.out.trans (hb2.mono (by rw [HZ1.out]; omega))
  have hbw : Below w.heap.size w w2 := HB1.out.trans (hb2.mono (by rw [HZ1.out]; omega))
  have hsz : w.heap.size + 2 ≤ w2.heap.size := by have := hb2.size; rw [HZ1.out] at this; exact this
  have c0 : w2.cell? ⟨w.heap.size, 0, none⟩ = some (.int .i64 0) := (hbx.cell (p := ⟨w.heap.size, 0, none⟩) (by simp)).trans k0
  have c1 : w2.cell? ⟨w.heap.size, 1, none⟩ = some (.int .i64 0) := (hbx.cell (p := ⟨w.heap.size, 1, none⟩) (by simp)).trans k1
  have c2 : w2.cell? ⟨w.heap.size, 2, none⟩ = some (.int .u64 0) := (hbx.cell (p := ⟨w.heap.size, 2, none⟩) (by simp)).trans k2
  have c3 : w2.cell? ⟨w.heap.size, 3, none⟩ = some (.string ⟨#[]⟩) := (hbx.cell (p := ⟨w.heap.size, 3, none⟩) (by simp)).trans k3
  have f0 := (hbx.frozen (p := ⟨w.heap.size, 0, none⟩) (by simp)).trans (kf 0)
  have f1 := (hbx.frozen (p := ⟨w.heap.size, 1, none⟩) (by simp)).trans (kf 1)
  have f2 := (hbx.frozen (p := ⟨w.heap.size, 2, none⟩) (by simp)).trans (kf 2)
  have f3 := (hbx.frozen (p := ⟨w.heap.size, 3, none⟩) (by simp)).trans (kf 3)
  have hs0 : w.heap.size < w2.heap.size := by omega
  have hs1 : w.heap.size < w2.heap.size + 1 := by omega
  have hs2 : w.heap.size < w2.heap.size + 1 + 1 := by omega
  clear hl hfl k0 k1 k2 k3 kf hbx hb2
  have HBW := Lib.hid hbw
  clear hbw
  go_wp2_with (go_at_call 48; refine (Of_any _ _ _).mono ?_; rintro e w' ⟨rfl, rfl⟩)
  refine (check_err _ _ _ _ _ _ HC.out HN.out).mono ?_
  rintro e w3 ⟨b, rfl, hbb, hcb, hb3⟩
  have hbz : Below (w2.heap.size + 1) (w2.alloc (.cells #[.int .i64 k, .int .i64 i, .int .u64 u, .string v] 25)) w3 := hb3.mono (by simp)
  have d0 : w3.cell? ⟨w.heap.size, 0, none⟩ = some (.int .i64 0) := (hbz.cell (p := ⟨w.heap.size, 0, none⟩) (by simp; omega)).trans ((World.cell?_alloc_lt _ _ _ hs0).trans c0)
  have d1 : w3.cell? ⟨w.heap.size, 1, none⟩ = some (.int .i64 0) := (hbz.cell (p := ⟨w.heap.size, 1, none⟩) (by simp; omega)).trans ((World.cell?_alloc_lt _ _ _ hs0).trans c1)
  have d2 : w3.cell? ⟨w.heap.size, 2, none⟩ = some (.int .u64 0) := (hbz.cell (p := ⟨w.heap.size, 2, none⟩) (by simp; omega)).trans ((World.cell?_alloc_lt _ _ _ hs0).trans c2)
  have d3 : w3.cell? ⟨w.heap.size, 3, none⟩ = some (.string ⟨#[]⟩) := (hbz.cell (p := ⟨w.heap.size, 3, none⟩) (by simp; omega)).trans ((World.cell?_alloc_lt _ _ _ hs0).trans c3)
  have e0 : w3.frozen? ⟨w.heap.size, 0, none⟩ = false := (hbz.frozen (p := ⟨w.heap.size, 0, none⟩) (by simp; omega)).trans ((World.frozen?_alloc_old _ _ _ (Nat.ne_of_lt hs0)).trans f0)
  have e1 : w3.frozen? ⟨w.heap.size, 1, none⟩ = false := (hbz.frozen (p := ⟨w.heap.size, 1, none⟩) (by simp; omega)).trans ((World.frozen?_alloc_old _ _ _ (Nat.ne_of_lt hs0)).trans f1)
  have e2 : w3.frozen? ⟨w.heap.size, 2, none⟩ = false := (hbz.frozen (p := ⟨w.heap.size, 2, none⟩) (by simp; omega)).trans ((World.frozen?_alloc_old _ _ _ (Nat.ne_of_lt hs0)).trans f2)
  have e3 : w3.frozen? ⟨w.heap.size, 3, none⟩ = false := (hbz.frozen (p := ⟨w.heap.size, 3, none⟩) (by simp; omega)).trans ((World.frozen?_alloc_old _ _ _ (Nat.ne_of_lt hs0)).trans f3)
  have v0 : w3.cell? ⟨w2.heap.size, 0, none⟩ = some (.int .i64 k) := (hbz.cell (p := ⟨w2.heap.size, 0, none⟩) (by simp)).trans (World.cell?_alloc_new _ _ _ 0)
  have v1 : w3.cell? ⟨w2.heap.size, 1, none⟩ = some (.int .i64 i) := (hbz.cell (p := ⟨w2.heap.size, 1, none⟩) (by simp)).trans (World.cell?_alloc_new _ _ _ 1)
  have v2 : w3.cell? ⟨w2.heap.size, 2, none⟩ = some (.int .u64 u) := (hbz.cell (p := ⟨w2.heap.size, 2, none⟩) (by simp)).trans (World.cell?_alloc_new _ _ _ 2)
  have v3 : w3.cell? ⟨w2.heap.size, 3, none⟩ = some (.string v) := (hbz.cell (p := ⟨w2.heap.size, 3, none⟩) (by simp)).trans (World.cell?_alloc_new _ _ _ 3)
  have hbw3 : Below w.heap.size w w3 := (HBW.out.alloc (by omega) _).trans (hb3.mono (by simp; omega))
  have HBW3 := Lib.hid hbw3
  have hbb' : w.heap.size ≠ b := by simp at hbb; omega
  clear c0 c1 c2 c3 f0 f1 f2 f3 hb3 hbz hbw3
  go_wp2_with (go_at_call 48; refine (Of_any _ _ _).mono ?_; rintro e w' ⟨rfl, rfl⟩)
  refine bodyPost_ret (v := .tuple #[zeroV, .iface 125 (.pointer (some ⟨b, 0, none⟩))]) (by simp [zeroV, results, Tryz.results40, go_sem, d0, d1, d2, d3]) rfl ⟨b, rfl, ?_, ?_⟩
  · simp [go_sem, hcb]
  · repeat' first | exact HBW3.out | (refine Below.setCell ?_ (by simp) _)
end Go.Proofs.YtifmfcaaofiboaaGreatDoor
namespace Go.Proofs.YtifmfcaaofiboaaGreatDoor
open Go.RowKit

set_option maxRecDepth 100000 in
set_option maxHeartbeats 1600000 in
theorem parseUint_no (s : ByteArray) (k i u : Int) (v : ByteArray) (w : World) (hk : ∀ W, Calls Tryz.prog 56 #[.string s] W fun e w' => e = .returned (.int .i64 2) ∧ W = w') (hr : Gives 75 #[.string s] (.tuple #[.agg #[.int .i64 k, .int .i64 i, .int .u64 u, .string v], .bool false])) :
    Calls Tryz.prog 40 #[.string s] w (IsErr2 110 zeroV w) := by
  obtain ⟨W1, hW1⟩ : ∃ W1, W1 = w.alloc (.cells #[.int .i64 0, .int .i64 0, .int .u64 0, .string ⟨#[]⟩] 25) := ⟨_, rfl⟩
  have hl : (Instr.lookup 91 (.map (some (w.heap.size + 1))) (.int .i64 2) false).run Tryz.prog (W1.alloc (.map mapKinds 5)) = .ok (kv 73 74 75) _ := kinds_got (by rw [show w.heap.size + 1 = W1.heap.size by rw [hW1]; simp]; exact heap_alloc_at _ _) rfl
  have hfl := fun W => field_read 73 74 75 W
  have hB1 : Below w.heap.size w (W1.alloc (.map mapKinds 5)) := by rw [hW1]; exact ((Below.refl _ _).alloc (Nat.le_refl _) _).alloc (by simp) _
  have hB1' : Below (w.heap.size + 1) W1 (W1.alloc (.map mapKinds 5)) := (Below.refl _ _).alloc (by rw [hW1]; simp) _
  have hz1 : (W1.alloc (.map mapKinds 5)).heap.size = w.heap.size + 2 := by rw [hW1]; simp
  have k0 : W1.cell? ⟨w.heap.size, 0, none⟩ = some (.int .i64 0) := by rw [hW1]; exact World.cell?_alloc_new _ _ _ 0
  have k1 : W1.cell? ⟨w.heap.size, 1, none⟩ = some (.int .i64 0) := by rw [hW1]; exact World.cell?_alloc_new _ _ _ 1
  have k2 : W1.cell? ⟨w.heap.size, 2, none⟩ = some (.int .u64 0) := by rw [hW1]; exact World.cell?_alloc_new _ _ _ 2
  have k3 : W1.cell? ⟨w.heap.size, 3, none⟩ = some (.string ⟨#[]⟩) := by rw [hW1]; exact World.cell?_alloc_new _ _ _ 3
  have kf : ∀ j, W1.frozen? ⟨w.heap.size, j, none⟩ = false := by rw [hW1]; simp
  have HK := Lib.hid hk
  have HR := Lib.hid hr
  have HB1 := Lib.hid hB1
  have HB1' := Lib.hid hB1'
  have HZ1 := Lib.hid hz1
  have HKs := Lib.hid (And.intro k0 (And.intro k1 (And.intro k2 (And.intro k3 kf))))
  clear hk hr hB1 hB1' hz1 k0 k1 k2 k3 kf
  subst hW1
  simp only [kv] at hl
  go_enter Tryz.func40, Tryz.ntmps40
  go_wp2_with (first | (go_at_call 48; refine (Of_any _ _ _).mono ?_; rintro e w' ⟨rfl, rfl⟩) | (go_at_call 47; refine (kinds_any _).mono ?_; rintro e w' ⟨rfl, rfl⟩) | (go_at_call 56; refine (HK.out _).mono ?_; rintro e w' ⟨rfl, rfl⟩))
  refine (HR.out _).mono ?_
  rintro e w2 ⟨rfl, hb2⟩
  obtain ⟨k0, k1, k2, k3, kf⟩ := HKs.out
  have hbx : Below (w.heap.size + 1) _ w2 := HB1'.out.trans (hb2.mono (by rw [HZ1.out]; omega))
  have hbw : Below w.heap.size w w2 := HB1.out.trans (hb2.mono (by rw [HZ1.out]; omega))
  have hsz : w.heap.size + 2 ≤ w2.heap.size := by have := hb2.size; rw [HZ1.out] at this; exact this
  have c0 : w2.cell? ⟨w.heap.size, 0, none⟩ = some (.int .i64 0) := (hbx.cell (p := ⟨w.heap.size, 0, none⟩) (by simp)).trans k0
  have c1 : w2.cell? ⟨w.heap.size, 1, none⟩ = some (.int .i64 0) := (hbx.cell (p := ⟨w.heap.size, 1, none⟩) (by simp)).trans k1
  have c2 : w2.cell? ⟨w.heap.size, 2, none⟩ = some (.int .u64 0) := (hbx.cell (p := ⟨w.heap.size, 2, none⟩) (by simp)).trans k2
  have c3 : w2.cell? ⟨w.heap.size, 3, none⟩ = some (.string ⟨#[]⟩) := (hbx.cell (p := ⟨w.heap.size, 3, none⟩) (by simp)).trans k3
  have f0 := (hbx.frozen (p := ⟨w.heap.size, 0, none⟩) (by simp)).trans (kf 0)
  have f1 := (hbx.frozen (p := ⟨w.heap.size, 1, none⟩) (by simp)).trans (kf 1)
  have f2 := (hbx.frozen (p := ⟨w.heap.size, 2, none⟩) (by simp)).trans (kf 2)
  have f3 := (hbx.frozen (p := ⟨w.heap.size, 3, none⟩) (by simp)).trans (kf 3)
  have hs0 : w.heap.size < w2.heap.size := by omega
  have hs1 : w.heap.size < w2.heap.size + 1 := by omega
  have hs2 : w.heap.size < w2.heap.size + 1 + 1 := by omega
  clear hl hfl k0 k1 k2 k3 kf hbx hb2
  have HBW := Lib.hid hbw
  clear hbw
  go_wp2_with (go_at_call 48; refine (Of_any _ _ _).mono ?_; rintro e w' ⟨rfl, rfl⟩)
  refine bodyPost_ret (v := .tuple #[zeroV, .iface 125 (.pointer (some ⟨w2.heap.size + 1, 0, none⟩))]) (by simp [zeroV, results, Tryz.results40, go_sem, c0, c1, c2, c3, hs0, hs1]) rfl ⟨w2.heap.size + 1, rfl, ?_, ?_⟩
  · simp [go_sem]
  · repeat' first | exact HBW.out | (refine Below.alloc ?_ (by simp; omega) _) | (refine Below.setCell ?_ (by simp) _)

set_option maxRecDepth 100000 in
set_option maxHeartbeats 1600000 in
theorem parseUint_ok (s : ByteArray) (k i u : Int) (v : ByteArray) (w : World) (hk : ∀ W, Calls Tryz.prog 56 #[.string s] W fun e w' => e = .returned (.int .i64 2) ∧ W = w') (hr : Gives 75 #[.string s] (.tuple #[.agg #[.int .i64 k, .int .i64 i, .int .u64 u, .string v], .bool true])) (hc : chk k i u v = 0) :
    Calls Tryz.prog 40 #[.string s] w (fun e w' => e = .returned (.tuple #[.agg #[.int .i64 k, .int .i64 i, .int .u64 u, .string v], .nilIface]) ∧ Below w.heap.size w w') := by
  obtain ⟨W1, hW1⟩ : ∃ W1, W1 = w.alloc (.cells #[.int .i64 0, .int .i64 0, .int .u64 0, .string ⟨#[]⟩] 25) := ⟨_, rfl⟩
  have hl : (Instr.lookup 91 (.map (some (w.heap.size + 1))) (.int .i64 2) false).run Tryz.prog (W1.alloc (.map mapKinds 5)) = .ok (kv 73 74 75) _ := kinds_got (by rw [show w.heap.size + 1 = W1.heap.size by rw [hW1]; simp]; exact heap_alloc_at _ _) rfl
  have hfl := fun W => field_read 73 74 75 W
  have hB1 : Below w.heap.size w (W1.alloc (.map mapKinds 5)) := by rw [hW1]; exact ((Below.refl _ _).alloc (Nat.le_refl _) _).alloc (by simp) _
  have hB1' : Below (w.heap.size + 1) W1 (W1.alloc (.map mapKinds 5)) := (Below.refl _ _).alloc (by rw [hW1]; simp) _
  have hz1 : (W1.alloc (.map mapKinds 5)).heap.size = w.heap.size + 2 := by rw [hW1]; simp
  have k0 : W1.cell? ⟨w.heap.size, 0, none⟩ = some (.int .i64 0) := by rw [hW1]; exact World.cell?_alloc_new _ _ _ 0
  have k1 : W1.cell? ⟨w.heap.size, 1, none⟩ = some (.int .i64 0) := by rw [hW1]; exact World.cell?_alloc_new _ _ _ 1
  have k2 : W1.cell? ⟨w.heap.size, 2, none⟩ = some (.int .u64 0) := by rw [hW1]; exact World.cell?_alloc_new _ _ _ 2
  have k3 : W1.cell? ⟨w.heap.size, 3, none⟩ = some (.string ⟨#[]⟩) := by rw [hW1]; exact World.cell?_alloc_new _ _ _ 3
  have kf : ∀ j, W1.frozen? ⟨w.heap.size, j, none⟩ = false := by rw [hW1]; simp
  have HK := Lib.hid hk
  have HR := Lib.hid hr
  have HB1 := Lib.hid hB1
  have HB1' := Lib.hid hB1'
  have HZ1 := Lib.hid hz1
  have HKs := Lib.hid (And.intro k0 (And.intro k1 (And.intro k2 (And.intro k3 kf))))
  have HC := Lib.hid hc
  clear hc
  clear hk hr hB1 hB1' hz1 k0 k1 k2 k3 kf
  subst hW1
  simp only [kv] at hl
  go_enter Tryz.func40, Tryz.ntmps40
  go_wp2_with (first | (go_at_call 48; refine (Of_any _ _ _).mono ?_; rintro e w' ⟨rfl, rfl⟩) | (go_at_call 47; refine (kinds_any _).mono ?_; rintro e w' ⟨rfl, rfl⟩) | (go_at_call 56; refine (HK.out _).mono ?_; rintro e w' ⟨rfl, rfl⟩))
  refine (HR.out _).mono ?_
  rintro e w2 ⟨rfl, hb2⟩
  obtain ⟨k0, k1, k2, k3, kf⟩ := HKs.out
  have hbx : Below (w.heap.size + 1) _ w2 := HB1'.out.trans (hb2.mono (by rw [HZ1.out]; omega))
  have hbw : Below w.heap.size w w2 := HB1.out.trans (hb2.mono (by rw [HZ1.out]; omega))
  have hsz : w.heap.size + 2 ≤ w2.heap.size := by have := hb2.size; rw [HZ1.out] at this; exact this
  have c0 : w2.cell? ⟨w.heap.size, 0, none⟩ = some (.int .i64 0) := (hbx.cell (p := ⟨w.heap.size, 0, none⟩) (by simp)).trans k0
  have c1 : w2.cell? ⟨w.heap.size, 1, none⟩ = some (.int .i64 0) := (hbx.cell (p := ⟨w.heap.size, 1, none⟩) (by simp)).trans k1
  have c2 : w2.cell? ⟨w.heap.size, 2, none⟩ = some (.int .u64 0) := (hbx.cell (p := ⟨w.heap.size, 2, none⟩) (by simp)).trans k2
  have c3 : w2.cell? ⟨w.heap.size, 3, none⟩ = some (.string ⟨#[]⟩) := (hbx.cell (p := ⟨w.heap.size, 3, none⟩) (by simp)).trans k3
  have f0 := (hbx.frozen (p := ⟨w.heap.size, 0, none⟩) (by simp)).trans (kf 0)
  have f1 := (hbx.frozen (p := ⟨w.heap.size, 1, none⟩) (by simp)).trans (kf 1)
  have f2 := (hbx.frozen (p := ⟨w.heap.size, 2, none⟩) (by simp)).trans (kf 2)
  have f3 := (hbx.frozen (p := ⟨w.heap.size, 3, none⟩) (by simp)).trans (kf 3)
  have hs0 : w.heap.size < w2.heap.size := by omega
  have hs1 : w.heap.size < w2.heap.size + 1 := by omega
  have hs2 : w.heap.size < w2.heap.size + 1 + 1 := by omega
  clear hl hfl k0 k1 k2 k3 kf hbx hb2
  have HBW := Lib.hid hbw
  clear hbw
  go_wp2_with (go_at_call 48; refine (Of_any _ _ _).mono ?_; rintro e w' ⟨rfl, rfl⟩)
  refine (check_zero _ _ _ _ _ HC.out).mono ?_
  rintro e w3 ⟨rfl, hb3⟩
  have hbz : Below (w2.heap.size + 1) (w2.alloc (.cells #[.int .i64 k, .int .i64 i, .int .u64 u, .string v] 25)) w3 := hb3.mono (by simp)
  have d0 : w3.cell? ⟨w.heap.size, 0, none⟩ = some (.int .i64 0) := (hbz.cell (p := ⟨w.heap.size, 0, none⟩) (by simp; omega)).trans ((World.cell?_alloc_lt _ _ _ hs0).trans c0)
  have d1 : w3.cell? ⟨w.heap.size, 1, none⟩ = some (.int .i64 0) := (hbz.cell (p := ⟨w.heap.size, 1, none⟩) (by simp; omega)).trans ((World.cell?_alloc_lt _ _ _ hs0).trans c1)
  have d2 : w3.cell? ⟨w.heap.size, 2, none⟩ = some (.int .u64 0) := (hbz.cell (p := ⟨w.heap.size, 2, none⟩) (by simp; omega)).trans ((World.cell?_alloc_lt _ _ _ hs0).trans c2)
  have d3 : w3.cell? ⟨w.heap.size, 3, none⟩ = some (.string ⟨#[]⟩) := (hbz.cell (p := ⟨w.heap.size, 3, none⟩) (by simp; omega)).trans ((World.cell?_alloc_lt _ _ _ hs0).trans c3)
  have e0 : w3.frozen? ⟨w.heap.size, 0, none⟩ = false := (hbz.frozen (p := ⟨w.heap.size, 0, none⟩) (by simp; omega)).trans ((World.frozen?_alloc_old _ _ _ (Nat.ne_of_lt hs0)).trans f0)
  have e1 : w3.frozen? ⟨w.heap.size, 1, none⟩ = false := (hbz.frozen (p := ⟨w.heap.size, 1, none⟩) (by simp; omega)).trans ((World.frozen?_alloc_old _ _ _ (Nat.ne_of_lt hs0)).trans f1)
  have e2 : w3.frozen? ⟨w.heap.size, 2, none⟩ = false := (hbz.frozen (p := ⟨w.heap.size, 2, none⟩) (by simp; omega)).trans ((World.frozen?_alloc_old _ _ _ (Nat.ne_of_lt hs0)).trans f2)
  have e3 : w3.frozen? ⟨w.heap.size, 3, none⟩ = false := (hbz.frozen (p := ⟨w.heap.size, 3, none⟩) (by simp; omega)).trans ((World.frozen?_alloc_old _ _ _ (Nat.ne_of_lt hs0)).trans f3)
  have v0 : w3.cell? ⟨w2.heap.size, 0, none⟩ = some (.int .i64 k) := (hbz.cell (p := ⟨w2.heap.size, 0, none⟩) (by simp)).trans (World.cell?_alloc_new _ _ _ 0)
  have v1 : w3.cell? ⟨w2.heap.size, 1, none⟩ = some (.int .i64 i) := (hbz.cell (p := ⟨w2.heap.size, 1, none⟩) (by simp)).trans (World.cell?_alloc_new _ _ _ 1)
  have v2 : w3.cell? ⟨w2.heap.size, 2, none⟩ = some (.int .u64 u) := (hbz.cell (p := ⟨w2.heap.size, 2, none⟩) (by simp)).trans (World.cell?_alloc_new _ _ _ 2)
  have v3 : w3.cell? ⟨w2.heap.size, 3, none⟩ = some (.string v) := (hbz.cell (p := ⟨w2.heap.size, 3, none⟩) (by simp)).trans (World.cell?_alloc_new _ _ _ 3)
  have hbw3 : Below w.heap.size w w3 := (HBW.out.alloc (by omega) _).trans (hb3.mono (by simp; omega))
  have HBW3 := Lib.hid hbw3
  clear c0 c1 c2 c3 f0 f1 f2 f3 hb3 hbz hbw3
  go_wp2_with (go_at_call 48; refine (Of_any _ _ _).mono ?_; rintro e w' ⟨rfl, rfl⟩)
  refine bodyPost_ret (v := .tuple #[.agg #[.int .i64 k, .int .i64 i, .int .u64 u, .string v], .nilIface]) (by simp [results, Tryz.results40, go_sem, d0, d1, d2, d3]) rfl ⟨rfl, ?_⟩
  repeat' first | exact HBW3.out | (refine Below.setCell ?_ (by simp) _)

set_option maxRecDepth 100000 in
set_option maxHeartbeats 1600000 in
theorem parseUint_bad (s : ByteArray) (k i u : Int) (v : ByteArray) (w : World) (hk : ∀ W, Calls Tryz.prog 56 #[.string s] W fun e w' => e = .returned (.int .i64 2) ∧ W = w') (hr : Gives 75 #[.string s] (.tuple #[.agg #[.int .i64 k, .int .i64 i, .int .u64 u, .string v], .bool true])) (n : Int) (hc : chk k i u v = n) (hn : n ≠ 0) :
    Calls Tryz.prog 40 #[.string s] w (IsErr2 n zeroV w) := by
  obtain ⟨W1, hW1⟩ : ∃ W1, W1 = w.alloc (.cells #[.int .i64 0, .int .i64 0, .int .u64 0, .string ⟨#[]⟩] 25) := ⟨_, rfl⟩
  have hl : (Instr.lookup 91 (.map (some (w.heap.size + 1))) (.int .i64 2) false).run Tryz.prog (W1.alloc (.map mapKinds 5)) = .ok (kv 73 74 75) _ := kinds_got (by rw [show w.heap.size + 1 = W1.heap.size by rw [hW1]; simp]; exact heap_alloc_at _ _) rfl
  have hfl := fun W => field_read 73 74 75 W
  have hB1 : Below w.heap.size w (W1.alloc (.map mapKinds 5)) := by rw [hW1]; exact ((Below.refl _ _).alloc (Nat.le_refl _) _).alloc (by simp) _
  have hB1' : Below (w.heap.size + 1) W1 (W1.alloc (.map mapKinds 5)) := (Below.refl _ _).alloc (by rw [hW1]; simp) _
  have hz1 : (W1.alloc (.map mapKinds 5)).heap.size = w.heap.size + 2 := by rw [hW1]; simp
  have k0 : W1.cell? ⟨w.heap.size, 0, none⟩ = some (.int .i64 0) := by rw [hW1]; exact World.cell?_alloc_new _ _ _ 0
  have k1 : W1.cell? ⟨w.heap.size, 1, none⟩ = some (.int .i64 0) := by rw [hW1]; exact World.cell?_alloc_new _ _ _ 1
  have k2 : W1.cell? ⟨w.heap.size, 2, none⟩ = some (.int .u64 0) := by rw [hW1]; exact World.cell?_alloc_new _ _ _ 2
  have k3 : W1.cell? ⟨w.heap.size, 3, none⟩ = some (.string ⟨#[]⟩) := by rw [hW1]; exact World.cell?_alloc_new _ _ _ 3
  have kf : ∀ j, W1.frozen? ⟨w.heap.size, j, none⟩ = false := by rw [hW1]; simp
  have HK := Lib.hid hk
  have HR := Lib.hid hr
  have HB1 := Lib.hid hB1
  have HB1' := Lib.hid hB1'
  have HZ1 := Lib.hid hz1
  have HKs := Lib.hid (And.intro k0 (And.intro k1 (And.intro k2 (And.intro k3 kf))))
  have HC := Lib.hid hc
  clear hc
  have HN := Lib.hid hn
  clear hn
  clear hk hr hB1 hB1' hz1 k0 k1 k2 k3 kf
  subst hW1
  simp only [kv] at hl
  go_enter Tryz.func40, Tryz.ntmps40
  go_wp2_with (first | (go_at_call 48; refine (Of_any _ _ _).mono ?_; rintro e w' ⟨rfl, rfl⟩) | (go_at_call 47; refine (kinds_any _).mono ?_; rintro e w' ⟨rfl, rfl⟩) | (go_at_call 56; refine (HK.out _).mono ?_; rintro e w' ⟨rfl, rfl⟩))
  refine (HR.out _).mono ?_
  rintro e w2 ⟨rfl, hb2⟩
  obtain ⟨k0, k1, k2, k3, kf⟩ := HKs.out
  have hbx : Below (w.heap.size + 1) _ w2 := HB1'.out.trans (hb2.mono (by rw [HZ1.out]; omega))
  have hbw : Below w.heap.size w w2 := HB1.out.trans (hb2.mono (by rw [HZ1.out]; omega))
  have hsz : w.heap.size + 2 ≤ w2.heap.size := by have := hb2.size; rw [HZ1.out] at this; exact this
  have c0 : w2.cell? ⟨w.heap.size, 0, none⟩ = some (.int .i64 0) := (hbx.cell (p := ⟨w.heap.size, 0, none⟩) (by simp)).trans k0
  have c1 : w2.cell? ⟨w.heap.size, 1, none⟩ = some (.int .i64 0) := (hbx.cell (p := ⟨w.heap.size, 1, none⟩) (by simp)).trans k1
  have c2 : w2.cell? ⟨w.heap.size, 2, none⟩ = some (.int .u64 0) := (hbx.cell (p := ⟨w.heap.size, 2, none⟩) (by simp)).trans k2
  have c3 : w2.cell? ⟨w.heap.size, 3, none⟩ = some (.string ⟨#[]⟩) := (hbx.cell (p := ⟨w.heap.size, 3, none⟩) (by simp)).trans k3
  have f0 := (hbx.frozen (p := ⟨w.heap.size, 0, none⟩) (by simp)).trans (kf 0)
  have f1 := (hbx.frozen (p := ⟨w.heap.size, 1, none⟩) (by simp)).trans (kf 1)
  have f2 := (hbx.frozen (p := ⟨w.heap.size, 2, none⟩) (by simp)).trans (kf 2)
  have f3 := (hbx.frozen (p := ⟨w.heap.size, 3, none⟩) (by simp)).trans (kf 3)
  have hs0 : w.heap.size < w2.heap.size := by omega
  have hs1 : w.heap.size < w2.heap.size + 1 := by omega
  have hs2 : w.heap.size < w2.heap.size + 1 + 1 := by omega
  clear hl hfl k0 k1 k2 k3 kf hbx hb2
  have HBW := Lib.hid hbw
  clear hbw
  go_wp2_with (go_at_call 48; refine (Of_any _ _ _).mono ?_; rintro e w' ⟨rfl, rfl⟩)
  refine (check_err _ _ _ _ _ _ HC.out HN.out).mono ?_
  rintro e w3 ⟨b, rfl, hbb, hcb, hb3⟩
  have hbz : Below (w2.heap.size + 1) (w2.alloc (.cells #[.int .i64 k, .int .i64 i, .int .u64 u, .string v] 25)) w3 := hb3.mono (by simp)
  have d0 : w3.cell? ⟨w.heap.size, 0, none⟩ = some (.int .i64 0) := (hbz.cell (p := ⟨w.heap.size, 0, none⟩) (by simp; omega)).trans ((World.cell?_alloc_lt _ _ _ hs0).trans c0)
  have d1 : w3.cell? ⟨w.heap.size, 1, none⟩ = some (.int .i64 0) := (hbz.cell (p := ⟨w.heap.size, 1, none⟩) (by simp; omega)).trans ((World.cell?_alloc_lt _ _ _ hs0).trans c1)
  have d2 : w3.cell? ⟨w.heap.size, 2, none⟩ = some (.int .u64 0) := (hbz.cell (p := ⟨w.heap.size, 2, none⟩) (by simp; omega)).trans ((World.cell?_alloc_lt _ _ _ hs0).trans c2)
  have d3 : w3.cell? ⟨w.heap.size, 3, none⟩ = some (.string ⟨#[]⟩) := (hbz.cell (p := ⟨w.heap.size, 3, none⟩) (by simp; omega)).trans ((World.cell?_alloc_lt _ _ _ hs0).trans c3)
  have e0 : w3.frozen? ⟨w.heap.size, 0, none⟩ = false := (hbz.frozen (p := ⟨w.heap.size, 0, none⟩) (by simp; omega)).trans ((World.frozen?_alloc_old _ _ _ (Nat.ne_of_lt hs0)).trans f0)
  have e1 : w3.frozen? ⟨w.heap.size, 1, none⟩ = false := (hbz.frozen (p := ⟨w.heap.size, 1, none⟩) (by simp; omega)).trans ((World.frozen?_alloc_old _ _ _ (Nat.ne_of_lt hs0)).trans f1)
  have e2 : w3.frozen? ⟨w.heap.size, 2, none⟩ = false := (hbz.frozen (p := ⟨w.heap.size, 2, none⟩) (by simp; omega)).trans ((World.frozen?_alloc_old _ _ _ (Nat.ne_of_lt hs0)).trans f2)
  have e3 : w3.frozen? ⟨w.heap.size, 3, none⟩ = false := (hbz.frozen (p := ⟨w.heap.size, 3, none⟩) (by simp; omega)).trans ((World.frozen?_alloc_old _ _ _ (Nat.ne_of_lt hs0)).trans f3)
  have v0 : w3.cell? ⟨w2.heap.size, 0, none⟩ = some (.int .i64 k) := (hbz.cell (p := ⟨w2.heap.size, 0, none⟩) (by simp)).trans (World.cell?_alloc_new _ _ _ 0)
  have v1 : w3.cell? ⟨w2.heap.size, 1, none⟩ = some (.int .i64 i) := (hbz.cell (p := ⟨w2.heap.size, 1, none⟩) (by simp)).trans (World.cell?_alloc_new _ _ _ 1)
  have v2 : w3.cell? ⟨w2.heap.size, 2, none⟩ = some (.int .u64 u) := (hbz.cell (p := ⟨w2.heap.size, 2, none⟩) (by simp)).trans (World.cell?_alloc_new _ _ _ 2)
  have v3 : w3.cell? ⟨w2.heap.size, 3, none⟩ = some (.string v) := (hbz.cell (p := ⟨w2.heap.size, 3, none⟩) (by simp)).trans (World.cell?_alloc_new _ _ _ 3)
  have hbw3 : Below w.heap.size w w3 := (HBW.out.alloc (by omega) _).trans (hb3.mono (by simp; omega))
  have HBW3 := Lib.hid hbw3
  have hbb' : w.heap.size ≠ b := by simp at hbb; omega
  clear c0 c1 c2 c3 f0 f1 f2 f3 hb3 hbz hbw3
  go_wp2_with (go_at_call 48; refine (Of_any _ _ _).mono ?_; rintro e w' ⟨rfl, rfl⟩)
  refine bodyPost_ret (v := .tuple #[zeroV, .iface 125 (.pointer (some ⟨b, 0, none⟩))]) (by simp [zeroV, results, Tryz.results40, go_sem, d0, d1, d2, d3]) rfl ⟨b, rfl, ?_, ?_⟩
  · simp [go_sem, hcb]
  · repeat' first | exact HBW3.out | (refine Below.setCell ?_ (by simp) _)
end Go.Proofs.YtifmfcaaofiboaaGreatDoor
namespace Go.Proofs.YtifmfcaaofiboaaGreatDoor
open Go.RowKit

set_option maxRecDepth 100000 in
set_option maxHeartbeats 1600000 in
theorem parseBool_no (s : ByteArray) (k i u : Int) (v : ByteArray) (w : World) (hk : ∀ W, Calls Tryz.prog 56 #[.string s] W fun e w' => e = .returned (.int .i64 3) ∧ W = w') (hr : Gives 78 #[.string s] (.tuple #[.agg #[.int .i64 k, .int .i64 i, .int .u64 u, .string v], .bool false])) :
    Calls Tryz.prog 40 #[.string s] w (IsErr2 110 zeroV w) := by
  obtain ⟨W1, hW1⟩ : ∃ W1, W1 = w.alloc (.cells #[.int .i64 0, .int .i64 0, .int .u64 0, .string ⟨#[]⟩] 25) := ⟨_, rfl⟩
  have hl : (Instr.lookup 91 (.map (some (w.heap.size + 1))) (.int .i64 3) false).run Tryz.prog (W1.alloc (.map mapKinds 5)) = .ok (kv 76 77 78) _ := kinds_got (by rw [show w.heap.size + 1 = W1.heap.size by rw [hW1]; simp]; exact heap_alloc_at _ _) rfl
  have hfl := fun W => field_read 76 77 78 W
  have hB1 : Below w.heap.size w (W1.alloc (.map mapKinds 5)) := by rw [hW1]; exact ((Below.refl _ _).alloc (Nat.le_refl _) _).alloc (by simp) _
  have hB1' : Below (w.heap.size + 1) W1 (W1.alloc (.map mapKinds 5)) := (Below.refl _ _).alloc (by rw [hW1]; simp) _
  have hz1 : (W1.alloc (.map mapKinds 5)).heap.size = w.heap.size + 2 := by rw [hW1]; simp
  have k0 : W1.cell? ⟨w.heap.size, 0, none⟩ = some (.int .i64 0) := by rw [hW1]; exact World.cell?_alloc_new _ _ _ 0
  have k1 : W1.cell? ⟨w.heap.size, 1, none⟩ = some (.int .i64 0) := by rw [hW1]; exact World.cell?_alloc_new _ _ _ 1
  have k2 : W1.cell? ⟨w.heap.size, 2, none⟩ = some (.int .u64 0) := by rw [hW1]; exact World.cell?_alloc_new _ _ _ 2
  have k3 : W1.cell? ⟨w.heap.size, 3, none⟩ = some (.string ⟨#[]⟩) := by rw [hW1]; exact World.cell?_alloc_new _ _ _ 3
  have kf : ∀ j, W1.frozen? ⟨w.heap.size, j, none⟩ = false := by rw [hW1]; simp
  have HK := Lib.hid hk
  have HR := Lib.hid hr
  have HB1 := Lib.hid hB1
  have HB1' := Lib.hid hB1'
  have HZ1 := Lib.hid hz1
  have HKs := Lib.hid (And.intro k0 (And.intro k1 (And.intro k2 (And.intro k3 kf))))
  clear hk hr hB1 hB1' hz1 k0 k1 k2 k3 kf
  subst hW1
  simp only [kv] at hl
  go_enter Tryz.func40, Tryz.ntmps40
  go_wp2_with (first | (go_at_call 48; refine (Of_any _ _ _).mono ?_; rintro e w' ⟨rfl, rfl⟩) | (go_at_call 47; refine (kinds_any _).mono ?_; rintro e w' ⟨rfl, rfl⟩) | (go_at_call 56; refine (HK.out _).mono ?_; rintro e w' ⟨rfl, rfl⟩))
  refine (HR.out _).mono ?_
  rintro e w2 ⟨rfl, hb2⟩
  obtain ⟨k0, k1, k2, k3, kf⟩ := HKs.out
  have hbx : Below (w.heap.size + 1) _ w2 := HB1'.out.trans (hb2.mono (by rw [HZ1.out]; omega))
  have hbw : Below w.heap.size w w2 := HB1.out.trans (hb2.mono (by rw [HZ1.out]; omega))
  have hsz : w.heap.size + 2 ≤ w2.heap.size := by have := hb2.size; rw [HZ1.out] at this; exact this
  have c0 : w2.cell? ⟨w.heap.size, 0, none⟩ = some (.int .i64 0) := (hbx.cell (p := ⟨w.heap.size, 0, none⟩) (by simp)).trans k0
  have c1 : w2.cell? ⟨w.heap.size, 1, none⟩ = some (.int .i64 0) := (hbx.cell (p := ⟨w.heap.size, 1, none⟩) (by simp)).trans k1
  have c2 : w2.cell? ⟨w.heap.size, 2, none⟩ = some (.int .u64 0) := (hbx.cell (p := ⟨w.heap.size, 2, none⟩) (by simp)).trans k2
  have c3 : w2.cell? ⟨w.heap.size, 3, none⟩ = some (.string ⟨#[]⟩) := (hbx.cell (p := ⟨w.heap.size, 3, none⟩) (by simp)).trans k3
  have f0 := (hbx.frozen (p := ⟨w.heap.size, 0, none⟩) (by simp)).trans (kf 0)
  have f1 := (hbx.frozen (p := ⟨w.heap.size, 1, none⟩) (by simp)).trans (kf 1)
  have f2 := (hbx.frozen (p := ⟨w.heap.size, 2, none⟩) (by simp)).trans (kf 2)
  have f3 := (hbx.frozen (p := ⟨w.heap.size, 3, none⟩) (by simp)).trans (kf 3)
  have hs0 : w.heap.size < w2.heap.size := by omega
  have hs1 : w.heap.size < w2.heap.size + 1 := by omega
  have hs2 : w.heap.size < w2.heap.size + 1 + 1 := by omega
  clear hl hfl k0 k1 k2 k3 kf hbx hb2
  have HBW := Lib.hid hbw
  clear hbw
  go_wp2_with (go_at_call 48; refine (Of_any _ _ _).mono ?_; rintro e w' ⟨rfl, rfl⟩)
  refine bodyPost_ret (v := .tuple #[zeroV, .iface 125 (.pointer (some ⟨w2.heap.size + 1, 0, none⟩))]) (by simp [zeroV, results, Tryz.results40, go_sem, c0, c1, c2, c3, hs0, hs1]) rfl ⟨w2.heap.size + 1, rfl, ?_, ?_⟩
  · simp [go_sem]
  · repeat' first | exact HBW.out | (refine Below.alloc ?_ (by simp; omega) _) | (refine Below.setCell ?_ (by simp) _)

set_option maxRecDepth 100000 in
set_option maxHeartbeats 1600000 in
theorem parseBool_ok (s : ByteArray) (k i u : Int) (v : ByteArray) (w : World) (hk : ∀ W, Calls Tryz.prog 56 #[.string s] W fun e w' => e = .returned (.int .i64 3) ∧ W = w') (hr : Gives 78 #[.string s] (.tuple #[.agg #[.int .i64 k, .int .i64 i, .int .u64 u, .string v], .bool true])) (hc : chk k i u v = 0) :
    Calls Tryz.prog 40 #[.string s] w (fun e w' => e = .returned (.tuple #[.agg #[.int .i64 k, .int .i64 i, .int .u64 u, .string v], .nilIface]) ∧ Below w.heap.size w w') := by
  obtain ⟨W1, hW1⟩ : ∃ W1, W1 = w.alloc (.cells #[.int .i64 0, .int .i64 0, .int .u64 0, .string ⟨#[]⟩] 25) := ⟨_, rfl⟩
  have hl : (Instr.lookup 91 (.map (some (w.heap.size + 1))) (.int .i64 3) false).run Tryz.prog (W1.alloc (.map mapKinds 5)) = .ok (kv 76 77 78) _ := kinds_got (by rw [show w.heap.size + 1 = W1.heap.size by rw [hW1]; simp]; exact heap_alloc_at _ _) rfl
  have hfl := fun W => field_read 76 77 78 W
  have hB1 : Below w.heap.size w (W1.alloc (.map mapKinds 5)) := by rw [hW1]; exact ((Below.refl _ _).alloc (Nat.le_refl _) _).alloc (by simp) _
  have hB1' : Below (w.heap.size + 1) W1 (W1.alloc (.map mapKinds 5)) := (Below.refl _ _).alloc (by rw [hW1]; simp) _
  have hz1 : (W1.alloc (.map mapKinds 5)).heap.size = w.heap.size + 2 := by rw [hW1]; simp
  have k0 : W1.cell? ⟨w.heap.size, 0, none⟩ = some (.int .i64 0) := by rw [hW1]; exact World.cell?_alloc_new _ _ _ 0
  have k1 : W1.cell? ⟨w.heap.size, 1, none⟩ = some (.int .i64 0) := by rw [hW1]; exact World.cell?_alloc_new _ _ _ 1
  have k2 : W1.cell? ⟨w.heap.size, 2, none⟩ = some (.int .u64 0) := by rw [hW1]; exact World.cell?_alloc_new _ _ _ 2
  have k3 : W1.cell? ⟨w.heap.size, 3, none⟩ = some (.string ⟨#[]⟩) := by rw [hW1]; exact World.cell?_alloc_new _ _ _ 3
  have kf : ∀ j, W1.frozen? ⟨w.heap.size, j, none⟩ = false := by rw [hW1]; simp
  have HK := Lib.hid hk
  have HR := Lib.hid hr
  have HB1 := Lib.hid hB1
  have HB1' := Lib.hid hB1'
  have HZ1 := Lib.hid hz1
  have HKs := Lib.hid (And.intro k0 (And.intro k1 (And.intro k2 (And.intro k3 kf))))
  have HC := Lib.hid hc
  clear hc
  clear hk hr hB1 hB1' hz1 k0 k1 k2 k3 kf
  subst hW1
  simp only [kv] at hl
  go_enter Tryz.func40, Tryz.ntmps40
  go_wp2_with (first | (go_at_call 48; refine (Of_any _ _ _).mono ?_; rintro e w' ⟨rfl, rfl⟩) | (go_at_call 47; refine (kinds_any _).mono ?_; rintro e w' ⟨rfl, rfl⟩) | (go_at_call 56; refine (HK.out _).mono ?_; rintro e w' ⟨rfl, rfl⟩))
  refine (HR.out _).mono ?_
  rintro e w2 ⟨rfl, hb2⟩
  obtain ⟨k0, k1, k2, k3, kf⟩ := HKs.out
  have hbx : Below (w.heap.size + 1) _ w2 := HB1'.out.trans (hb2.mono (by rw [HZ1.out]; omega))
  have hbw : Below w.heap.size w w2 := HB1.out.trans (hb2.mono (by rw [HZ1.out]; omega))
  have hsz : w.heap.size + 2 ≤ w2.heap.size := by have := hb2.size; rw [HZ1.out] at this; exact this
  have c0 : w2.cell? ⟨w.heap.size, 0, none⟩ = some (.int .i64 0) := (hbx.cell (p := ⟨w.heap.size, 0, none⟩) (by simp)).trans k0
  have c1 : w2.cell? ⟨w.heap.size, 1, none⟩ = some (.int .i64 0) := (hbx.cell (p := ⟨w.heap.size, 1, none⟩) (by simp)).trans k1
  have c2 : w2.cell? ⟨w.heap.size, 2, none⟩ = some (.int .u64 0) := (hbx.cell (p := ⟨w.heap.size, 2, none⟩) (by simp)).trans k2
  have c3 : w2.cell? ⟨w.heap.size, 3, none⟩ = some (.string ⟨#[]⟩) := (hbx.cell (p := ⟨w.heap.size, 3, none⟩) (by simp)).trans k3
  have f0 := (hbx.frozen (p := ⟨w.heap.size, 0, none⟩) (by simp)).trans (kf 0)
  have f1 := (hbx.frozen (p := ⟨w.heap.size, 1, none⟩) (by simp)).trans (kf 1)
  have f2 := (hbx.frozen (p := ⟨w.heap.size, 2, none⟩) (by simp)).trans (kf 2)
  have f3 := (hbx.frozen (p := ⟨w.heap.size, 3, none⟩) (by simp)).trans (kf 3)
  have hs0 : w.heap.size < w2.heap.size := by omega
  have hs1 : w.heap.size < w2.heap.size + 1 := by omega
  have hs2 : w.heap.size < w2.heap.size + 1 + 1 := by omega
  clear hl hfl k0 k1 k2 k3 kf hbx hb2
  have HBW := Lib.hid hbw
  clear hbw
  go_wp2_with (go_at_call 48; refine (Of_any _ _ _).mono ?_; rintro e w' ⟨rfl, rfl⟩)
  refine (check_zero _ _ _ _ _ HC.out).mono ?_
  rintro e w3 ⟨rfl, hb3⟩
  have hbz : Below (w2.heap.size + 1) (w2.alloc (.cells #[.int .i64 k, .int .i64 i, .int .u64 u, .string v] 25)) w3 := hb3.mono (by simp)
  have d0 : w3.cell? ⟨w.heap.size, 0, none⟩ = some (.int .i64 0) := (hbz.cell (p := ⟨w.heap.size, 0, none⟩) (by simp; omega)).trans ((World.cell?_alloc_lt _ _ _ hs0).trans c0)
  have d1 : w3.cell? ⟨w.heap.size, 1, none⟩ = some (.int .i64 0) := (hbz.cell (p := ⟨w.heap.size, 1, none⟩) (by simp; omega)).trans ((World.cell?_alloc_lt _ _ _ hs0).trans c1)
  have d2 : w3.cell? ⟨w.heap.size, 2, none⟩ = some (.int .u64 0) := (hbz.cell (p := ⟨w.heap.size, 2, none⟩) (by simp; omega)).trans ((World.cell?_alloc_lt _ _ _ hs0).trans c2)
  have d3 : w3.cell? ⟨w.heap.size, 3, none⟩ = some (.string ⟨#[]⟩) := (hbz.cell (p := ⟨w.heap.size, 3, none⟩) (by simp; omega)).trans ((World.cell?_alloc_lt _ _ _ hs0).trans c3)
  have e0 : w3.frozen? ⟨w.heap.size, 0, none⟩ = false := (hbz.frozen (p := ⟨w.heap.size, 0, none⟩) (by simp; omega)).trans ((World.frozen?_alloc_old _ _ _ (Nat.ne_of_lt hs0)).trans f0)
  have e1 : w3.frozen? ⟨w.heap.size, 1, none⟩ = false := (hbz.frozen (p := ⟨w.heap.size, 1, none⟩) (by simp; omega)).trans ((World.frozen?_alloc_old _ _ _ (Nat.ne_of_lt hs0)).trans f1)
  have e2 : w3.frozen? ⟨w.heap.size, 2, none⟩ = false := (hbz.frozen (p := ⟨w.heap.size, 2, none⟩) (by simp; omega)).trans ((World.frozen?_alloc_old _ _ _ (Nat.ne_of_lt hs0)).trans f2)
  have e3 : w3.frozen? ⟨w.heap.size, 3, none⟩ = false := (hbz.frozen (p := ⟨w.heap.size, 3, none⟩) (by simp; omega)).trans ((World.frozen?_alloc_old _ _ _ (Nat.ne_of_lt hs0)).trans f3)
  have v0 : w3.cell? ⟨w2.heap.size, 0, none⟩ = some (.int .i64 k) := (hbz.cell (p := ⟨w2.heap.size, 0, none⟩) (by simp)).trans (World.cell?_alloc_new _ _ _ 0)
  have v1 : w3.cell? ⟨w2.heap.size, 1, none⟩ = some (.int .i64 i) := (hbz.cell (p := ⟨w2.heap.size, 1, none⟩) (by simp)).trans (World.cell?_alloc_new _ _ _ 1)
  have v2 : w3.cell? ⟨w2.heap.size, 2, none⟩ = some (.int .u64 u) := (hbz.cell (p := ⟨w2.heap.size, 2, none⟩) (by simp)).trans (World.cell?_alloc_new _ _ _ 2)
  have v3 : w3.cell? ⟨w2.heap.size, 3, none⟩ = some (.string v) := (hbz.cell (p := ⟨w2.heap.size, 3, none⟩) (by simp)).trans (World.cell?_alloc_new _ _ _ 3)
  have hbw3 : Below w.heap.size w w3 := (HBW.out.alloc (by omega) _).trans (hb3.mono (by simp; omega))
  have HBW3 := Lib.hid hbw3
  clear c0 c1 c2 c3 f0 f1 f2 f3 hb3 hbz hbw3
  go_wp2_with (go_at_call 48; refine (Of_any _ _ _).mono ?_; rintro e w' ⟨rfl, rfl⟩)
  refine bodyPost_ret (v := .tuple #[.agg #[.int .i64 k, .int .i64 i, .int .u64 u, .string v], .nilIface]) (by simp [results, Tryz.results40, go_sem, d0, d1, d2, d3]) rfl ⟨rfl, ?_⟩
  repeat' first | exact HBW3.out | (refine Below.setCell ?_ (by simp) _)

set_option maxRecDepth 100000 in
set_option maxHeartbeats 1600000 in
theorem parseBool_bad (s : ByteArray) (k i u : Int) (v : ByteArray) (w : World) (hk : ∀ W, Calls Tryz.prog 56 #[.string s] W fun e w' => e = .returned (.int .i64 3) ∧ W = w') (hr : Gives 78 #[.string s] (.tuple #[.agg #[.int .i64 k, .int .i64 i, .int .u64 u, .string v], .bool true])) (n : Int) (hc : chk k i u v = n) (hn : n ≠ 0) :
    Calls Tryz.prog 40 #[.string s] w (IsErr2 n zeroV w) := by
  obtain ⟨W1, hW1⟩ : ∃ W1, W1 = w.alloc (.cells #[.int .i64 0, .int .i64 0, .int .u64 0, .string ⟨#[]⟩] 25) := ⟨_, rfl⟩
  have hl : (Instr.lookup 91 (.map (some (w.heap.size + 1))) (.int .i64 3) false).run Tryz.prog (W1.alloc (.map mapKinds 5)) = .ok (kv 76 77 78) _ := kinds_got (by rw [show w.heap.size + 1 = W1.heap.size by rw [hW1]; simp]; exact heap_alloc_at _ _) rfl
  have hfl := fun W => field_read 76 77 78 W
  have hB1 : Below w.heap.size w (W1.alloc (.map mapKinds 5)) := by rw [hW1]; exact ((Below.refl _ _).alloc (Nat.le_refl _) _).alloc (by simp) _
  have hB1' : Below (w.heap.size + 1) W1 (W1.alloc (.map mapKinds 5)) := (Below.refl _ _).alloc (by rw [hW1]; simp) _
  have hz1 : (W1.alloc (.map mapKinds 5)).heap.size = w.heap.size + 2 := by rw [hW1]; simp
  have k0 : W1.cell? ⟨w.heap.size, 0, none⟩ = some (.int .i64 0) := by rw [hW1]; exact World.cell?_alloc_new _ _ _ 0
  have k1 : W1.cell? ⟨w.heap.size, 1, none⟩ = some (.int .i64 0) := by rw [hW1]; exact World.cell?_alloc_new _ _ _ 1
  have k2 : W1.cell? ⟨w.heap.size, 2, none⟩ = some (.int .u64 0) := by rw [hW1]; exact World.cell?_alloc_new _ _ _ 2
  have k3 : W1.cell? ⟨w.heap.size, 3, none⟩ = some (.string ⟨#[]⟩) := by rw [hW1]; exact World.cell?_alloc_new _ _ _ 3
  have kf : ∀ j, W1.frozen? ⟨w.heap.size, j, none⟩ = false := by rw [hW1]; simp
  have HK := Lib.hid hk
  have HR := Lib.hid hr
  have HB1 := Lib.hid hB1
  have HB1' := Lib.hid hB1'
  have HZ1 := Lib.hid hz1
  have HKs := Lib.hid (And.intro k0 (And.intro k1 (And.intro k2 (And.intro k3 kf))))
  have HC := Lib.hid hc
  clear hc
  have HN := Lib.hid hn
  clear hn
  clear hk hr hB1 hB1' hz1 k0 k1 k2 k3 kf
  subst hW1
  simp only [kv] at hl
  go_enter Tryz.func40, Tryz.ntmps40
  go_wp2_with (first | (go_at_call 48; refine (Of_any _ _ _).mono ?_; rintro e w' ⟨rfl, rfl⟩) | (go_at_call 47; refine (kinds_any _).mono ?_; rintro e w' ⟨rfl, rfl⟩) | (go_at_call 56; refine (HK.out _).mono ?_; rintro e w' ⟨rfl, rfl⟩))
  refine (HR.out _).mono ?_
  rintro e w2 ⟨rfl, hb2⟩
  obtain ⟨k0, k1, k2, k3, kf⟩ := HKs.out
  have hbx : Below (w.heap.size + 1) _ w2 := HB1'.out.trans (hb2.mono (by rw [HZ1.out]; omega))
  have hbw : Below w.heap.size w w2 := HB1.out.trans (hb2.mono (by rw [HZ1.out]; omega))
  have hsz : w.heap.size + 2 ≤ w2.heap.size := by have := hb2.size; rw [HZ1.out] at this; exact this
  have c0 : w2.cell? ⟨w.heap.size, 0, none⟩ = some (.int .i64 0) := (hbx.cell (p := ⟨w.heap.size, 0, none⟩) (by simp)).trans k0
  have c1 : w2.cell? ⟨w.heap.size, 1, none⟩ = some (.int .i64 0) := (hbx.cell (p := ⟨w.heap.size, 1, none⟩) (by simp)).trans k1
  have c2 : w2.cell? ⟨w.heap.size, 2, none⟩ = some (.int .u64 0) := (hbx.cell (p := ⟨w.heap.size, 2, none⟩) (by simp)).trans k2
  have c3 : w2.cell? ⟨w.heap.size, 3, none⟩ = some (.string ⟨#[]⟩) := (hbx.cell (p := ⟨w.heap.size, 3, none⟩) (by simp)).trans k3
  have f0 := (hbx.frozen (p := ⟨w.heap.size, 0, none⟩) (by simp)).trans (kf 0)
  have f1 := (hbx.frozen (p := ⟨w.heap.size, 1, none⟩) (by simp)).trans (kf 1)
  have f2 := (hbx.frozen (p := ⟨w.heap.size, 2, none⟩) (by simp)).trans (kf 2)
  have f3 := (hbx.frozen (p := ⟨w.heap.size, 3, none⟩) (by simp)).trans (kf 3)
  have hs0 : w.heap.size < w2.heap.size := by omega
  have hs1 : w.heap.size < w2.heap.size + 1 := by omega
  have hs2 : w.heap.size < w2.heap.size + 1 + 1 := by omega
  clear hl hfl k0 k1 k2 k3 kf hbx hb2
  have HBW := Lib.hid hbw
  clear hbw
  go_wp2_with (go_at_call 48; refine (Of_any _ _ _).mono ?_; rintro e w' ⟨rfl, rfl⟩)
  refine (check_err _ _ _ _ _ _ HC.out HN.out).mono ?_
  rintro e w3 ⟨b, rfl, hbb, hcb, hb3⟩
  have hbz : Below (w2.heap.size + 1) (w2.alloc (.cells #[.int .i64 k, .int .i64 i, .int .u64 u, .string v] 25)) w3 := hb3.mono (by simp)
  have d0 : w3.cell? ⟨w.heap.size, 0, none⟩ = some (.int .i64 0) := (hbz.cell (p := ⟨w.heap.size, 0, none⟩) (by simp; omega)).trans ((World.cell?_alloc_lt _ _ _ hs0).trans c0)
  have d1 : w3.cell? ⟨w.heap.size, 1, none⟩ = some (.int .i64 0) := (hbz.cell (p := ⟨w.heap.size, 1, none⟩) (by simp; omega)).trans ((World.cell?_alloc_lt _ _ _ hs0).trans c1)
  have d2 : w3.cell? ⟨w.heap.size, 2, none⟩ = some (.int .u64 0) := (hbz.cell (p := ⟨w.heap.size, 2, none⟩) (by simp; omega)).trans ((World.cell?_alloc_lt _ _ _ hs0).trans c2)
  have d3 : w3.cell? ⟨w.heap.size, 3, none⟩ = some (.string ⟨#[]⟩) := (hbz.cell (p := ⟨w.heap.size, 3, none⟩) (by simp; omega)).trans ((World.cell?_alloc_lt _ _ _ hs0).trans c3)
  have e0 : w3.frozen? ⟨w.heap.size, 0, none⟩ = false := (hbz.frozen (p := ⟨w.heap.size, 0, none⟩) (by simp; omega)).trans ((World.frozen?_alloc_old _ _ _ (Nat.ne_of_lt hs0)).trans f0)
  have e1 : w3.frozen? ⟨w.heap.size, 1, none⟩ = false := (hbz.frozen (p := ⟨w.heap.size, 1, none⟩) (by simp; omega)).trans ((World.frozen?_alloc_old _ _ _ (Nat.ne_of_lt hs0)).trans f1)
  have e2 : w3.frozen? ⟨w.heap.size, 2, none⟩ = false := (hbz.frozen (p := ⟨w.heap.size, 2, none⟩) (by simp; omega)).trans ((World.frozen?_alloc_old _ _ _ (Nat.ne_of_lt hs0)).trans f2)
  have e3 : w3.frozen? ⟨w.heap.size, 3, none⟩ = false := (hbz.frozen (p := ⟨w.heap.size, 3, none⟩) (by simp; omega)).trans ((World.frozen?_alloc_old _ _ _ (Nat.ne_of_lt hs0)).trans f3)
  have v0 : w3.cell? ⟨w2.heap.size, 0, none⟩ = some (.int .i64 k) := (hbz.cell (p := ⟨w2.heap.size, 0, none⟩) (by simp)).trans (World.cell?_alloc_new _ _ _ 0)
  have v1 : w3.cell? ⟨w2.heap.size, 1, none⟩ = some (.int .i64 i) := (hbz.cell (p := ⟨w2.heap.size, 1, none⟩) (by simp)).trans (World.cell?_alloc_new _ _ _ 1)
  have v2 : w3.cell? ⟨w2.heap.size, 2, none⟩ = some (.int .u64 u) := (hbz.cell (p := ⟨w2.heap.size, 2, none⟩) (by simp)).trans (World.cell?_alloc_new _ _ _ 2)
  have v3 : w3.cell? ⟨w2.heap.size, 3, none⟩ = some (.string v) := (hbz.cell (p := ⟨w2.heap.size, 3, none⟩) (by simp)).trans (World.cell?_alloc_new _ _ _ 3)
  have hbw3 : Below w.heap.size w w3 := (HBW.out.alloc (by omega) _).trans (hb3.mono (by simp; omega))
  have HBW3 := Lib.hid hbw3
  have hbb' : w.heap.size ≠ b := by simp at hbb; omega
  clear c0 c1 c2 c3 f0 f1 f2 f3 hb3 hbz hbw3
  go_wp2_with (go_at_call 48; refine (Of_any _ _ _).mono ?_; rintro e w' ⟨rfl, rfl⟩)
  refine bodyPost_ret (v := .tuple #[zeroV, .iface 125 (.pointer (some ⟨b, 0, none⟩))]) (by simp [zeroV, results, Tryz.results40, go_sem, d0, d1, d2, d3]) rfl ⟨b, rfl, ?_, ?_⟩
  · simp [go_sem, hcb]
  · repeat' first | exact HBW3.out | (refine Below.setCell ?_ (by simp) _)
end Go.Proofs.YtifmfcaaofiboaaGreatDoor
namespace Go.Proofs.YtifmfcaaofiboaaGreatDoor
open Go.RowKit

set_option maxRecDepth 100000 in
set_option maxHeartbeats 1600000 in
theorem parseBytes_no (s : ByteArray) (k i u : Int) (v : ByteArray) (w : World) (hk : ∀ W, Calls Tryz.prog 56 #[.string s] W fun e w' => e = .returned (.int .i64 4) ∧ W = w') (hr : Gives 81 #[.string s] (.tuple #[.agg #[.int .i64 k, .int .i64 i, .int .u64 u, .string v], .bool false])) :
    Calls Tryz.prog 40 #[.string s] w (IsErr2 110 zeroV w) := by
  obtain ⟨W1, hW1⟩ : ∃ W1, W1 = w.alloc (.cells #[.int .i64 0, .int .i64 0, .int .u64 0, .string ⟨#[]⟩] 25) := ⟨_, rfl⟩
  have hl : (Instr.lookup 91 (.map (some (w.heap.size + 1))) (.int .i64 4) false).run Tryz.prog (W1.alloc (.map mapKinds 5)) = .ok (kv 79 80 81) _ := kinds_got (by rw [show w.heap.size + 1 = W1.heap.size by rw [hW1]; simp]; exact heap_alloc_at _ _) rfl
  have hfl := fun W => field_read 79 80 81 W
  have hB1 : Below w.heap.size w (W1.alloc (.map mapKinds 5)) := by rw [hW1]; exact ((Below.refl _ _).alloc (Nat.le_refl _) _).alloc (by simp) _
  have hB1' : Below (w.heap.size + 1) W1 (W1.alloc (.map mapKinds 5)) := (Below.refl _ _).alloc (by rw [hW1]; simp) _
  have hz1 : (W1.alloc (.map mapKinds 5)).heap.size = w.heap.size + 2 := by rw [hW1]; simp
  have k0 : W1.cell? ⟨w.heap.size, 0, none⟩ = some (.int .i64 0) := by rw [hW1]; exact World.cell?_alloc_new _ _ _ 0
  have k1 : W1.cell? ⟨w.heap.size, 1, none⟩ = some (.int .i64 0) := by rw [hW1]; exact World.cell?_alloc_new _ _ _ 1
  have k2 : W1.cell? ⟨w.heap.size, 2, none⟩ = some (.int .u64 0) := by rw [hW1]; exact World.cell?_alloc_new _ _ _ 2
  have k3 : W1.cell? ⟨w.heap.size, 3, none⟩ = some (.string ⟨#[]⟩) := by rw [hW1]; exact World.cell?_alloc_new _ _ _ 3
  have kf : ∀ j, W1.frozen? ⟨w.heap.size, j, none⟩ = false := by rw [hW1]; simp
  have HK := Lib.hid hk
  have HR := Lib.hid hr
  have HB1 := Lib.hid hB1
  have HB1' := Lib.hid hB1'
  have HZ1 := Lib.hid hz1
  have HKs := Lib.hid (And.intro k0 (And.intro k1 (And.intro k2 (And.intro k3 kf))))
  clear hk hr hB1 hB1' hz1 k0 k1 k2 k3 kf
  subst hW1
  simp only [kv] at hl
  go_enter Tryz.func40, Tryz.ntmps40
  go_wp2_with (first | (go_at_call 48; refine (Of_any _ _ _).mono ?_; rintro e w' ⟨rfl, rfl⟩) | (go_at_call 47; refine (kinds_any _).mono ?_; rintro e w' ⟨rfl, rfl⟩) | (go_at_call 56; refine (HK.out _).mono ?_; rintro e w' ⟨rfl, rfl⟩))
  refine (HR.out _).mono ?_
  rintro e w2 ⟨rfl, hb2⟩
  obtain ⟨k0, k1, k2, k3, kf⟩ := HKs.out
  have hbx : Below (w.heap.size + 1) _ w2 := HB1'.out.trans (hb2.mono (by rw [HZ1.out]; omega))
  have hbw : Below w.heap.size w w2 := HB1.out.trans (hb2.mono (by rw [HZ1.out]; omega))
  have hsz : w.heap.size + 2 ≤ w2.heap.size := by have := hb2.size; rw [HZ1.out] at this; exact this
  have c0 : w2.cell? ⟨w.heap.size, 0, none⟩ = some (.int .i64 0) := (hbx.cell (p := ⟨w.heap.size, 0, none⟩) (by simp)).trans k0
  have c1 : w2.cell? ⟨w.heap.size, 1, none⟩ = some (.int .i64 0) := (hbx.cell (p := ⟨w.heap.size, 1, none⟩) (by simp)).trans k1
  have c2 : w2.cell? ⟨w.heap.size, 2, none⟩ = some (.int .u64 0) := (hbx.cell (p := ⟨w.heap.size, 2, none⟩) (by simp)).trans k2
  have c3 : w2.cell? ⟨w.heap.size, 3, none⟩ = some (.string ⟨#[]⟩) := (hbx.cell (p := ⟨w.heap.size, 3, none⟩) (by simp)).trans k3
  have f0 := (hbx.frozen (p := ⟨w.heap.size, 0, none⟩) (by simp)).trans (kf 0)
  have f1 := (hbx.frozen (p := ⟨w.heap.size, 1, none⟩) (by simp)).trans (kf 1)
  have f2 := (hbx.frozen (p := ⟨w.heap.size, 2, none⟩) (by simp)).trans (kf 2)
  have f3 := (hbx.frozen (p := ⟨w.heap.size, 3, none⟩) (by simp)).trans (kf 3)
  have hs0 : w.heap.size < w2.heap.size := by omega
  have hs1 : w.heap.size < w2.heap.size + 1 := by omega
  have hs2 : w.heap.size < w2.heap.size + 1 + 1 := by omega
  clear hl hfl k0 k1 k2 k3 kf hbx hb2
  have HBW := Lib.hid hbw
  clear hbw
  go_wp2_with (go_at_call 48; refine (Of_any _ _ _).mono ?_; rintro e w' ⟨rfl, rfl⟩)
  refine bodyPost_ret (v := .tuple #[zeroV, .iface 125 (.pointer (some ⟨w2.heap.size + 1, 0, none⟩))]) (by simp [zeroV, results, Tryz.results40, go_sem, c0, c1, c2, c3, hs0, hs1]) rfl ⟨w2.heap.size + 1, rfl, ?_, ?_⟩
  · simp [go_sem]
  · repeat' first | exact HBW.out | (refine Below.alloc ?_ (by simp; omega) _) | (refine Below.setCell ?_ (by simp) _)

set_option maxRecDepth 100000 in
set_option maxHeartbeats 1600000 in
theorem parseBytes_ok (s : ByteArray) (k i u : Int) (v : ByteArray) (w : World) (hk : ∀ W, Calls Tryz.prog 56 #[.string s] W fun e w' => e = .returned (.int .i64 4) ∧ W = w') (hr : Gives 81 #[.string s] (.tuple #[.agg #[.int .i64 k, .int .i64 i, .int .u64 u, .string v], .bool true])) (hc : chk k i u v = 0) :
    Calls Tryz.prog 40 #[.string s] w (fun e w' => e = .returned (.tuple #[.agg #[.int .i64 k, .int .i64 i, .int .u64 u, .string v], .nilIface]) ∧ Below w.heap.size w w') := by
  obtain ⟨W1, hW1⟩ : ∃ W1, W1 = w.alloc (.cells #[.int .i64 0, .int .i64 0, .int .u64 0, .string ⟨#[]⟩] 25) := ⟨_, rfl⟩
  have hl : (Instr.lookup 91 (.map (some (w.heap.size + 1))) (.int .i64 4) false).run Tryz.prog (W1.alloc (.map mapKinds 5)) = .ok (kv 79 80 81) _ := kinds_got (by rw [show w.heap.size + 1 = W1.heap.size by rw [hW1]; simp]; exact heap_alloc_at _ _) rfl
  have hfl := fun W => field_read 79 80 81 W
  have hB1 : Below w.heap.size w (W1.alloc (.map mapKinds 5)) := by rw [hW1]; exact ((Below.refl _ _).alloc (Nat.le_refl _) _).alloc (by simp) _
  have hB1' : Below (w.heap.size + 1) W1 (W1.alloc (.map mapKinds 5)) := (Below.refl _ _).alloc (by rw [hW1]; simp) _
  have hz1 : (W1.alloc (.map mapKinds 5)).heap.size = w.heap.size + 2 := by rw [hW1]; simp
  have k0 : W1.cell? ⟨w.heap.size, 0, none⟩ = some (.int .i64 0) := by rw [hW1]; exact World.cell?_alloc_new _ _ _ 0
  have k1 : W1.cell? ⟨w.heap.size, 1, none⟩ = some (.int .i64 0) := by rw [hW1]; exact World.cell?_alloc_new _ _ _ 1
  have k2 : W1.cell? ⟨w.heap.size, 2, none⟩ = some (.int .u64 0) := by rw [hW1]; exact World.cell?_alloc_new _ _ _ 2
  have k3 : W1.cell? ⟨w.heap.size, 3, none⟩ = some (.string ⟨#[]⟩) := by rw [hW1]; exact World.cell?_alloc_new _ _ _ 3
  have kf : ∀ j, W1.frozen? ⟨w.heap.size, j, none⟩ = false := by rw [hW1]; simp
  have HK := Lib.hid hk
  have HR := Lib.hid hr
  have HB1 := Lib.hid hB1
  have HB1' := Lib.hid hB1'
  have HZ1 := Lib.hid hz1
  have HKs := Lib.hid (And.intro k0 (And.intro k1 (And.intro k2 (And.intro k3 kf))))
  have HC := Lib.hid hc
  clear hc
  clear hk hr hB1 hB1' hz1 k0 k1 k2 k3 kf
  subst hW1
  simp only [kv] at hl
  go_enter Tryz.func40, Tryz.ntmps40
  go_wp2_with (first | (go_at_call 48; refine (Of_any _ _ _).mono ?_; rintro e w' ⟨rfl, rfl⟩) | (go_at_call 47; refine (kinds_any _).mono ?_; rintro e w' ⟨rfl, rfl⟩) | (go_at_call 56; refine (HK.out _).mono ?_; rintro e w' ⟨rfl, rfl⟩))
  refine (HR.out _).mono ?_
  rintro e w2 ⟨rfl, hb2⟩
  obtain ⟨k0, k1, k2, k3, kf⟩ := HKs.out
  have hbx : Below (w.heap.size + 1) _ w2 := HB1'.out.trans (hb2.mono (by rw [HZ1.out]; omega))
  have hbw : Below w.heap.size w w2 := HB1.out.trans (hb2.mono (by rw [HZ1.out]; omega))
  have hsz : w.heap.size + 2 ≤ w2.heap.size := by have := hb2.size; rw [HZ1.out] at this; exact this
  have c0 : w2.cell? ⟨w.heap.size, 0, none⟩ = some (.int .i64 0) := (hbx.cell (p := ⟨w.heap.size, 0, none⟩) (by simp)).trans k0
  have c1 : w2.cell? ⟨w.heap.size, 1, none⟩ = some (.int .i64 0) := (hbx.cell (p := ⟨w.heap.size, 1, none⟩) (by simp)).trans k1
  have c2 : w2.cell? ⟨w.heap.size, 2, none⟩ = some (.int .u64 0) := (hbx.cell (p := ⟨w.heap.size, 2, none⟩) (by simp)).trans k2
  have c3 : w2.cell? ⟨w.heap.size, 3, none⟩ = some (.string ⟨#[]⟩) := (hbx.cell (p := ⟨w.heap.size, 3, none⟩) (by simp)).trans k3
  have f0 := (hbx.frozen (p := ⟨w.heap.size, 0, none⟩) (by simp)).trans (kf 0)
  have f1 := (hbx.frozen (p := ⟨w.heap.size, 1, none⟩) (by simp)).trans (kf 1)
  have f2 := (hbx.frozen (p := ⟨w.heap.size, 2, none⟩) (by simp)).trans (kf 2)
  have f3 := (hbx.frozen (p := ⟨w.heap.size, 3, none⟩) (by simp)).trans (kf 3)
  have hs0 : w.heap.size < w2.heap.size := by omega
  have hs1 : w.heap.size < w2.heap.size + 1 := by omega
  have hs2 : w.heap.size < w2.heap.size + 1 + 1 := by omega
  clear hl hfl k0 k1 k2 k3 kf hbx hb2
  have HBW := Lib.hid hbw
  clear hbw
  go_wp2_with (go_at_call 48; refine (Of_any _ _ _).mono ?_; rintro e w' ⟨rfl, rfl⟩)
  refine (check_zero _ _ _ _ _ HC.out).mono ?_
  rintro e w3 ⟨rfl, hb3⟩
  have hbz : Below (w2.heap.size + 1) (w2.alloc (.cells #[.int .i64 k, .int .i64 i, .int .u64 u, .string v] 25)) w3 := hb3.mono (by simp)
  have d0 : w3.cell? ⟨w.heap.size, 0, none⟩ = some (.int .i64 0) := (hbz.cell (p := ⟨w.heap.size, 0, none⟩) (by simp; omega)).trans ((World.cell?_alloc_lt _ _ _ hs0).trans c0)
  have d1 : w3.cell? ⟨w.heap.size, 1, none⟩ = some (.int .i64 0) := (hbz.cell (p := ⟨w.heap.size, 1, none⟩) (by simp; omega)).trans ((World.cell?_alloc_lt _ _ _ hs0).trans c1)
  have d2 : w3.cell? ⟨w.heap.size, 2, none⟩ = some (.int .u64 0) := (hbz.cell (p := ⟨w.heap.size, 2, none⟩) (by simp; omega)).trans ((World.cell?_alloc_lt _ _ _ hs0).trans c2)
  have d3 : w3.cell? ⟨w.heap.size, 3, none⟩ = some (.string ⟨#[]⟩) := (hbz.cell (p := ⟨w.heap.size, 3, none⟩) (by simp; omega)).trans ((World.cell?_alloc_lt _ _ _ hs0).trans c3)
  have e0 : w3.frozen? ⟨w.heap.size, 0, none⟩ = false := (hbz.frozen (p := ⟨w.heap.size, 0, none⟩) (by simp; omega)).trans ((World.frozen?_alloc_old _ _ _ (Nat.ne_of_lt hs0)).trans f0)
  have e1 : w3.frozen? ⟨w.heap.size, 1, none⟩ = false := (hbz.frozen (p := ⟨w.heap.size, 1, none⟩) (by simp; omega)).trans ((World.frozen?_alloc_old _ _ _ (Nat.ne_of_lt hs0)).trans f1)
  have e2 : w3.frozen? ⟨w.heap.size, 2, none⟩ = false := (hbz.frozen (p := ⟨w.heap.size, 2, none⟩) (by simp; omega)).trans ((World.frozen?_alloc_old _ _ _ (Nat.ne_of_lt hs0)).trans f2)
  have e3 : w3.frozen? ⟨w.heap.size, 3, none⟩ = false := (hbz.frozen (p := ⟨w.heap.size, 3, none⟩) (by simp; omega)).trans ((World.frozen?_alloc_old _ _ _ (Nat.ne_of_lt hs0)).trans f3)
  have v0 : w3.cell? ⟨w2.heap.size, 0, none⟩ = some (.int .i64 k) := (hbz.cell (p := ⟨w2.heap.size, 0, none⟩) (by simp)).trans (World.cell?_alloc_new _ _ _ 0)
  have v1 : w3.cell? ⟨w2.heap.size, 1, none⟩ = some (.int .i64 i) := (hbz.cell (p := ⟨w2.heap.size, 1, none⟩) (by simp)).trans (World.cell?_alloc_new _ _ _ 1)
  have v2 : w3.cell? ⟨w2.heap.size, 2, none⟩ = some (.int .u64 u) := (hbz.cell (p := ⟨w2.heap.size, 2, none⟩) (by simp)).trans (World.cell?_alloc_new _ _ _ 2)
  have v3 : w3.cell? ⟨w2.heap.size, 3, none⟩ = some (.string v) := (hbz.cell (p := ⟨w2.heap.size, 3, none⟩) (by simp)).trans (World.cell?_alloc_new _ _ _ 3)
  have hbw3 : Below w.heap.size w w3 := (HBW.out.alloc (by omega) _).trans (hb3.mono (by simp; omega))
  have HBW3 := Lib.hid hbw3
  clear c0 c1 c2 c3 f0 f1 f2 f3 hb3 hbz hbw3
  go_wp2_with (go_at_call 48; refine (Of_any _ _ _).mono ?_; rintro e w' ⟨rfl, rfl⟩)
  refine bodyPost_ret (v := .tuple #[.agg #[.int .i64 k, .int .i64 i, .int .u64 u, .string v], .nilIface]) (by simp [results, Tryz.results40, go_sem, d0, d1, d2, d3]) rfl ⟨rfl, ?_⟩
  repeat' first | exact HBW3.out | (refine Below.setCell ?_ (by simp) _)

set_option maxRecDepth 100000 in
set_option maxHeartbeats 1600000 in
theorem parseBytes_bad (s : ByteArray) (k i u : Int) (v : ByteArray) (w : World) (hk : ∀ W, Calls Tryz.prog 56 #[.string s] W fun e w' => e = .returned (.int .i64 4) ∧ W = w') (hr : Gives 81 #[.string s] (.tuple #[.agg #[.int .i64 k, .int .i64 i, .int .u64 u, .string v], .bool true])) (n : Int) (hc : chk k i u v = n) (hn : n ≠ 0) :
    Calls Tryz.prog 40 #[.string s] w (IsErr2 n zeroV w) := by
  obtain ⟨W1, hW1⟩ : ∃ W1, W1 = w.alloc (.cells #[.int .i64 0, .int .i64 0, .int .u64 0, .string ⟨#[]⟩] 25) := ⟨_, rfl⟩
  have hl : (Instr.lookup 91 (.map (some (w.heap.size + 1))) (.int .i64 4) false).run Tryz.prog (W1.alloc (.map mapKinds 5)) = .ok (kv 79 80 81) _ := kinds_got (by rw [show w.heap.size + 1 = W1.heap.size by rw [hW1]; simp]; exact heap_alloc_at _ _) rfl
  have hfl := fun W => field_read 79 80 81 W
  have hB1 : Below w.heap.size w (W1.alloc (.map mapKinds 5)) := by rw [hW1]; exact ((Below.refl _ _).alloc (Nat.le_refl _) _).alloc (by simp) _
  have hB1' : Below (w.heap.size + 1) W1 (W1.alloc (.map mapKinds 5)) := (Below.refl _ _).alloc (by rw [hW1]; simp) _
  have hz1 : (W1.alloc (.map mapKinds 5)).heap.size = w.heap.size + 2 := by rw [hW1]; simp
  have k0 : W1.cell? ⟨w.heap.size, 0, none⟩ = some (.int .i64 0) := by rw [hW1]; exact World.cell?_alloc_new _ _ _ 0
  have k1 : W1.cell? ⟨w.heap.size, 1, none⟩ = some (.int .i64 0) := by rw [hW1]; exact World.cell?_alloc_new _ _ _ 1
  have k2 : W1.cell? ⟨w.heap.size, 2, none⟩ = some (.int .u64 0) := by rw [hW1]; exact World.cell?_alloc_new _ _ _ 2
  have k3 : W1.cell? ⟨w.heap.size, 3, none⟩ = some (.string ⟨#[]⟩) := by rw [hW1]; exact World.cell?_alloc_new _ _ _ 3
  have kf : ∀ j, W1.frozen? ⟨w.heap.size, j, none⟩ = false := by rw [hW1]; simp
  have HK := Lib.hid hk
  have HR := Lib.hid hr
  have HB1 := Lib.hid hB1
  have HB1' := Lib.hid hB1'
  have HZ1 := Lib.hid hz1
  have HKs := Lib.hid (And.intro k0 (And.intro k1 (And.intro k2 (And.intro k3 kf))))
  have HC := Lib.hid hc
  clear hc
  have HN := Lib.hid hn
  clear hn
  clear hk hr hB1 hB1' hz1 k0 k1 k2 k3 kf
  subst hW1
  simp only [kv] at hl
  go_enter Tryz.func40, Tryz.ntmps40
  go_wp2_with (first | (go_at_call 48; refine (Of_any _ _ _).mono ?_; rintro e w' ⟨rfl, rfl⟩) | (go_at_call 47; refine (kinds_any _).mono ?_; rintro e w' ⟨rfl, rfl⟩) | (go_at_call 56; refine (HK.out _).mono ?_; rintro e w' ⟨rfl, rfl⟩))
  refine (HR.out _).mono ?_
  rintro e w2 ⟨rfl, hb2⟩
  obtain ⟨k0, k1, k2, k3, kf⟩ := HKs.out
  have hbx : Below (w.heap.size + 1) _ w2 := HB1'.out.trans (hb2.mono (by rw [HZ1.out]; omega))
  have hbw : Below w.heap.size w w2 := HB1.out.trans (hb2.mono (by rw [HZ1.out]; omega))
  have hsz : w.heap.size + 2 ≤ w2.heap.size := by have := hb2.size; rw [HZ1.out] at this; exact this
  have c0 : w2.cell? ⟨w.heap.size, 0, none⟩ = some (.int .i64 0) := (hbx.cell (p := ⟨w.heap.size, 0, none⟩) (by simp)).trans k0
  have c1 : w2.cell? ⟨w.heap.size, 1, none⟩ = some (.int .i64 0) := (hbx.cell (p := ⟨w.heap.size, 1, none⟩) (by simp)).trans k1
  have c2 : w2.cell? ⟨w.heap.size, 2, none⟩ = some (.int .u64 0) := (hbx.cell (p := ⟨w.heap.size, 2, none⟩) (by simp)).trans k2
  have c3 : w2.cell? ⟨w.heap.size, 3, none⟩ = some (.string ⟨#[]⟩) := (hbx.cell (p := ⟨w.heap.size, 3, none⟩) (by simp)).trans k3
  have f0 := (hbx.frozen (p := ⟨w.heap.size, 0, none⟩) (by simp)).trans (kf 0)
  have f1 := (hbx.frozen (p := ⟨w.heap.size, 1, none⟩) (by simp)).trans (kf 1)
  have f2 := (hbx.frozen (p := ⟨w.heap.size, 2, none⟩) (by simp)).trans (kf 2)
  have f3 := (hbx.frozen (p := ⟨w.heap.size, 3, none⟩) (by simp)).trans (kf 3)
  have hs0 : w.heap.size < w2.heap.size := by omega
  have hs1 : w.heap.size < w2.heap.size + 1 := by omega
  have hs2 : w.heap.size < w2.heap.size + 1 + 1 := by omega
  clear hl hfl k0 k1 k2 k3 kf hbx hb2
  have HBW := Lib.hid hbw
  clear hbw
  go_wp2_with (go_at_call 48; refine (Of_any _ _ _).mono ?_; rintro e w' ⟨rfl, rfl⟩)
  refine (check_err _ _ _ _ _ _ HC.out HN.out).mono ?_
  rintro e w3 ⟨b, rfl, hbb, hcb, hb3⟩
  have hbz : Below (w2.heap.size + 1) (w2.alloc (.cells #[.int .i64 k, .int .i64 i, .int .u64 u, .string v] 25)) w3 := hb3.mono (by simp)
  have d0 : w3.cell? ⟨w.heap.size, 0, none⟩ = some (.int .i64 0) := (hbz.cell (p := ⟨w.heap.size, 0, none⟩) (by simp; omega)).trans ((World.cell?_alloc_lt _ _ _ hs0).trans c0)
  have d1 : w3.cell? ⟨w.heap.size, 1, none⟩ = some (.int .i64 0) := (hbz.cell (p := ⟨w.heap.size, 1, none⟩) (by simp; omega)).trans ((World.cell?_alloc_lt _ _ _ hs0).trans c1)
  have d2 : w3.cell? ⟨w.heap.size, 2, none⟩ = some (.int .u64 0) := (hbz.cell (p := ⟨w.heap.size, 2, none⟩) (by simp; omega)).trans ((World.cell?_alloc_lt _ _ _ hs0).trans c2)
  have d3 : w3.cell? ⟨w.heap.size, 3, none⟩ = some (.string ⟨#[]⟩) := (hbz.cell (p := ⟨w.heap.size, 3, none⟩) (by simp; omega)).trans ((World.cell?_alloc_lt _ _ _ hs0).trans c3)
  have e0 : w3.frozen? ⟨w.heap.size, 0, none⟩ = false := (hbz.frozen (p := ⟨w.heap.size, 0, none⟩) (by simp; omega)).trans ((World.frozen?_alloc_old _ _ _ (Nat.ne_of_lt hs0)).trans f0)
  have e1 : w3.frozen? ⟨w.heap.size, 1, none⟩ = false := (hbz.frozen (p := ⟨w.heap.size, 1, none⟩) (by simp; omega)).trans ((World.frozen?_alloc_old _ _ _ (Nat.ne_of_lt hs0)).trans f1)
  have e2 : w3.frozen? ⟨w.heap.size, 2, none⟩ = false := (hbz.frozen (p := ⟨w.heap.size, 2, none⟩) (by simp; omega)).trans ((World.frozen?_alloc_old _ _ _ (Nat.ne_of_lt hs0)).trans f2)
  have e3 : w3.frozen? ⟨w.heap.size, 3, none⟩ = false := (hbz.frozen (p := ⟨w.heap.size, 3, none⟩) (by simp; omega)).trans ((World.frozen?_alloc_old _ _ _ (Nat.ne_of_lt hs0)).trans f3)
  have v0 : w3.cell? ⟨w2.heap.size, 0, none⟩ = some (.int .i64 k) := (hbz.cell (p := ⟨w2.heap.size, 0, none⟩) (by simp)).trans (World.cell?_alloc_new _ _ _ 0)
  have v1 : w3.cell? ⟨w2.heap.size, 1, none⟩ = some (.int .i64 i) := (hbz.cell (p := ⟨w2.heap.size, 1, none⟩) (by simp)).trans (World.cell?_alloc_new _ _ _ 1)
  have v2 : w3.cell? ⟨w2.heap.size, 2, none⟩ = some (.int .u64 u) := (hbz.cell (p := ⟨w2.heap.size, 2, none⟩) (by simp)).trans (World.cell?_alloc_new _ _ _ 2)
  have v3 : w3.cell? ⟨w2.heap.size, 3, none⟩ = some (.string v) := (hbz.cell (p := ⟨w2.heap.size, 3, none⟩) (by simp)).trans (World.cell?_alloc_new _ _ _ 3)
  have hbw3 : Below w.heap.size w w3 := (HBW.out.alloc (by omega) _).trans (hb3.mono (by simp; omega))
  have HBW3 := Lib.hid hbw3
  have hbb' : w.heap.size ≠ b := by simp at hbb; omega
  clear c0 c1 c2 c3 f0 f1 f2 f3 hb3 hbz hbw3
  go_wp2_with (go_at_call 48; refine (Of_any _ _ _).mono ?_; rintro e w' ⟨rfl, rfl⟩)
  refine bodyPost_ret (v := .tuple #[zeroV, .iface 125 (.pointer (some ⟨b, 0, none⟩))]) (by simp [zeroV, results, Tryz.results40, go_sem, d0, d1, d2, d3]) rfl ⟨b, rfl, ?_, ?_⟩
  · simp [go_sem, hcb]
  · repeat' first | exact HBW3.out | (refine Below.setCell ?_ (by simp) _)
end Go.Proofs.YtifmfcaaofiboaaGreatDoor
namespace Go.Proofs.YtifmfcaaofiboaaGreatDoor
open Go.RowKit

theorem readNull_null (w : World) :
    Calls Tryz.prog 69 #[.string ⟨#[110, 117, 108, 108]⟩] w fun e w' => e = .returned (.tuple #[.agg #[.int .i64 0, .int .i64 0, .int .u64 0, .string ⟨#[]⟩], .bool true]) ∧ Below w.heap.size w w' := by
  go_enter Tryz.func69, Tryz.ntmps69
  go_wp2
  go_returns
  exact ⟨rfl, by go_grown⟩

/-- a value that a text was read as, and whether it is one -/
structure Rd where
  k : Int
  i : Int
  u : Int
  v : ByteArray
  ok : Bool
def readOf (l : List UInt8) : Rd :=
  if l = [110, 117, 108, 108] then ⟨0, 0, 0, ⟨#[]⟩, true⟩
  else if l = [102, 97, 108, 115, 101] then ⟨3, 0, 0, ⟨#[]⟩, true⟩
  else if l = [116, 114, 117, 101] then ⟨3, 1, 0, ⟨#[]⟩, true⟩
  else if Lib.hasPrefix l [120, 39] = true then ⟨4, 0, 0, ⟨((prsGo (innerOf l) []).getD []).toArray⟩, bytesOk l⟩
  else if Lib.hasSuffix l [117] = true then
    match numOf 18446744073709551615 (Lib.trimSuffix l [117]) with
    | some n => ⟨2, 0, n, ⟨#[]⟩, true⟩
    | none => ⟨2, 0, 0, ⟨#[]⟩, false⟩
  else if Lib.hasPrefix l [45] = true then
    match numOf 9223372036854775808 (Lib.trimPrefix l [45]) with
    | some n => ⟨1, -n, 0, ⟨#[]⟩, decide (1 ≤ n)⟩
    | none => ⟨1, 0, 0, ⟨#[]⟩, false⟩
  else
    match numOf 9223372036854775807 l with
    | some n => ⟨1, n, 0, ⟨#[]⟩, true⟩
    | none => ⟨1, 0, 0, ⟨#[]⟩, false⟩
/-- what value.parse says: none (110), refused (the number), or the value -/
def ParsePost (r : Rd) (w : World) (e : Ending) (w' : World) : Prop :=
  if r.ok = false then IsErr2 110 zeroV w e w' else if chk r.k r.i r.u r.v = 0 then e = .returned (.tuple #[.agg #[.int .i64 r.k, .int .i64 r.i, .int .u64 r.u, .string r.v], .nilIface]) ∧ Below w.heap.size w w' else IsErr2 (chk r.k r.i r.u r.v) zeroV w e w'

theorem post_of {s : ByteArray} {r : Rd} {w : World}
    (h0 : r.ok = false → Calls Tryz.prog 40 #[.string s] w (IsErr2 110 zeroV w))
    (h1 : r.ok = true → chk r.k r.i r.u r.v = 0 → Calls Tryz.prog 40 #[.string s] w (fun e w' => e = .returned (.tuple #[.agg #[.int .i64 r.k, .int .i64 r.i, .int .u64 r.u, .string r.v], .nilIface]) ∧ Below w.heap.size w w'))
    (h2 : r.ok = true → ∀ n, chk r.k r.i r.u r.v = n → n ≠ 0 → Calls Tryz.prog 40 #[.string s] w (IsErr2 n zeroV w)) :
    Calls Tryz.prog 40 #[.string s] w (ParsePost r w) := by
  unfold ParsePost
  cases hok : r.ok
  · exact h0 hok
  · by_cases hc : chk r.k r.i r.u r.v = 0
    · simp only [Bool.true_eq_false, if_false, hc, if_true]
      exact h1 hok hc
    · simp only [Bool.true_eq_false, if_false, hc]
      exact h2 hok _ rfl hc

theorem parse_any (s : ByteArray) (w : World) (hz : s.size ≤ 800) :
    Calls Tryz.prog 40 #[.string s] w (ParsePost (readOf s.data.toList) w) := by
  have eS : ∀ l : List UInt8, s.data.toList = l → s = ⟨l.toArray⟩ := fun l h => by
    obtain ⟨⟨x⟩⟩ := s
    simp at h
    rw [h]
  have eT : s.toList = s.data.toList := ByteArray.toList_eq s
  unfold readOf
  split
  · rename_i h
    obtain rfl := eS _ h
    have hk := fun W => kindOf_null W
    refine post_of (fun h => by cases h) (fun _ hc => ?_) (fun _ n hc hn => ?_)
    · exact parseNull_ok _ _ _ _ _ w hk (fun W => readNull_null W) hc
    · exact parseNull_bad _ _ _ _ _ w hk (fun W => readNull_null W) n hc hn
  · rename_i hn0
    split
    · rename_i h
      obtain rfl := eS _ h
      refine post_of (fun h => by cases h) (fun _ hc => ?_) (fun _ n hc hn => ?_)
      · exact parseBool_ok _ _ _ _ _ w (fun W => kindOf_false W) (fun W => readBool_false W) hc
      · exact parseBool_bad _ _ _ _ _ w (fun W => kindOf_false W) (fun W => readBool_false W) n hc hn
    · rename_i hf0
      split
      · rename_i h
        obtain rfl := eS _ h
        refine post_of (fun h => by cases h) (fun _ hc => ?_) (fun _ n hc hn => ?_)
        · exact parseBool_ok _ _ _ _ _ w (fun W => kindOf_true W) (fun W => readBool_true W) hc
        · exact parseBool_bad _ _ _ _ _ w (fun W => kindOf_true W) (fun W => readBool_true W) n hc hn
      · rename_i ht0
        have hw : NoWord s := ⟨by rw [eT]; simpa using hn0, by rw [eT]; simpa using hf0, by rw [eT]; simpa using ht0⟩
        split
        · rename_i hp
          have hk := fun W => kindOf_bytes s W hw hp
          have hr := fun W => readBytes_any s W hp hz
          refine post_of (fun h => ?_) (fun h hc => ?_) (fun h n hc hn => ?_)
          · dsimp only at h; rw [h] at hr; exact parseBytes_no _ _ _ _ _ w hk hr
          · dsimp only at h hc ⊢; rw [h] at hr; exact parseBytes_ok _ _ _ _ _ w hk hr hc
          · dsimp only at h hc; rw [h] at hr; exact parseBytes_bad _ _ _ _ _ w hk hr n hc hn
        · rename_i hp
          have hp' : Lib.hasPrefix s.data.toList [120, 39] = false := by simpa using hp
          split
          · rename_i hs
            have hk := fun W => kindOf_uint s W hw hp' hs (by omega)
            split
            · rename_i n hn
              have hr := fun W => readUint_yes s n W hs (by omega) hn
              refine post_of (fun h => by cases h) (fun _ hc => ?_) (fun _ n hc hn => ?_)
              · exact parseUint_ok _ _ _ _ _ w hk hr hc
              · exact parseUint_bad _ _ _ _ _ w hk hr n hc hn
            · rename_i hn
              have hr := fun W => readUint_no s W hs (by omega) hn
              refine post_of (fun _ => ?_) (fun h => by cases h) (fun h => by cases h)
              exact parseUint_no _ _ _ _ _ w hk hr
          · rename_i hs
            have hs' : Lib.hasSuffix s.data.toList [117] = false := by simpa using hs
            have hk := fun W => kindOf_int s W hw hp' hs' (by omega)
            split
            · rename_i hm
              split
              · rename_i n hn
                have hr := fun W => readInt_minus s n W hm (by omega) hn
                refine post_of (fun h => ?_) (fun h hc => ?_) (fun h n hc hn => ?_)
                · dsimp only at h; rw [h] at hr; exact parseInt_no _ _ _ _ _ w hk hr
                · dsimp only at h hc ⊢; rw [h] at hr; exact parseInt_ok _ _ _ _ _ w hk hr hc
                · dsimp only at h hc; rw [h] at hr; exact parseInt_bad _ _ _ _ _ w hk hr n hc hn
              · rename_i hn
                have hr := fun W => readInt_minus_no s W hm (by omega) hn
                refine post_of (fun _ => ?_) (fun h => by cases h) (fun h => by cases h)
                exact parseInt_no _ _ _ _ _ w hk hr
            · rename_i hm
              have hm' : Lib.hasPrefix s.data.toList [45] = false := by simpa using hm
              split
              · rename_i n hn
                have hr := fun W => readInt_plus s n W hm' (by omega) hn
                refine post_of (fun h => by cases h) (fun _ hc => ?_) (fun _ n hc hn => ?_)
                · exact parseInt_ok _ _ _ _ _ w hk hr hc
                · exact parseInt_bad _ _ _ _ _ w hk hr n hc hn
              · rename_i hn
                have hr := fun W => readInt_plus_no s W hm' (by omega) hn
                refine post_of (fun _ => ?_) (fun h => by cases h) (fun h => by cases h)
                exact parseInt_no _ _ _ _ _ w hk hr

/-- a value and 0, or none and an error's number, as value.Parse gives them -/
def parseRes (l : List UInt8) : Value :=
  if (readOf l).ok = false then .tuple #[zeroV, .int .i64 110]
  else if chk (readOf l).k (readOf l).i (readOf l).u (readOf l).v = 0 then .tuple #[.agg #[.int .i64 (readOf l).k, .int .i64 (readOf l).i, .int .u64 (readOf l).u, .string (readOf l).v], .int .i64 0]
  else .tuple #[zeroV, .int .i64 (chk (readOf l).k (readOf l).i (readOf l).u (readOf l).v)]

set_option maxRecDepth 100000 in
set_option maxHeartbeats 1600000 in
theorem Parse_err (s : ByteArray) (n : Int) (w : World) (hg : HasET w) (hC : ∀ W, Calls Tryz.prog 40 #[.string s] W (IsErr2 n zeroV W)) :
    Calls Tryz.prog 19 #[.string s] w fun e w' => e = .returned (.tuple #[.agg #[.int .i64 0, .int .i64 0, .int .u64 0, .string ⟨#[]⟩], .int .i64 n]) ∧ Below w.heap.size w w' := by
  have HC := Lib.hid hC
  clear hC
  go_enter Tryz.func19, Tryz.ntmps19
  go_wp2_with (go_at_call 48; refine (Of_any _ _ _).mono ?_; rintro e w' ⟨rfl, rfl⟩)
  refine (HC.out _).mono ?_
  rintro e w1 ⟨b, rfl, hcb, hb1⟩
  obtain ⟨hc, hf, hsz⟩ := box_after hb1
  have c0 : w1.cell? ⟨w.heap.size, 0, none⟩ = some (.int .i64 0) := hc 0
  have c1 : w1.cell? ⟨w.heap.size, 1, none⟩ = some (.int .i64 0) := hc 1
  have c2 : w1.cell? ⟨w.heap.size, 2, none⟩ = some (.int .u64 0) := hc 2
  have c3 : w1.cell? ⟨w.heap.size, 3, none⟩ = some (.string ⟨#[]⟩) := hc 3
  have f0 := hf 0
  have f1 := hf 1
  have f2 := hf 2
  have f3 := hf 3
  have hbw := below_box hb1
  have hgg : HasET (w1.alloc (.cells #[.int .i64 0, .int .i64 0, .int .u64 0, .string ⟨#[]⟩] 25)).drew := (hg.below hbw hg.lt).below ((Below.refl _ w1).alloc (Nat.le_refl _) _).drew (hg.below hbw hg.lt).lt
  have hcbb : (w1.alloc (.cells #[.int .i64 0, .int .i64 0, .int .u64 0, .string ⟨#[]⟩] 25)).drew.cell? ⟨b, 1, none⟩ = some (.int .i64 n) := (World.cell?_alloc_lt _ _ _ (cell_lt hcb)).trans hcb
  have HG := Lib.hid hgg
  have HCB := Lib.hid hcbb
  clear hg hgg hcbb hcb
  have HBW := Lib.hid hbw
  clear hc hf hb1 hbw
  unfold zeroV
  go_wp2_with (go_at_call 48; refine (Of_any _ _ _).mono ?_; rintro e w' ⟨rfl, rfl⟩)
  go_region_held3 (fun w' => w'.cell? ⟨w1.heap.size, 0, none⟩ = some (.int .i64 0) ∧ w'.cell? ⟨w1.heap.size, 1, none⟩ = some (.int .i64 0) ∧ w'.cell? ⟨w1.heap.size, 2, none⟩ = some (.int .u64 0) ∧ w'.cell? ⟨w1.heap.size, 3, none⟩ = some (.string ⟨#[]⟩)) (first | (go_keep; done) | (simp [*, go_sem]; done) | (refine ⟨?_, ?_, ?_, ?_⟩ <;> (rw [hb3.cell (by simp)]; simp [go_sem]; done)) | (refine ⟨?_, ?_, ?_, ?_⟩ <;> (simp [go_sem, Nat.ne_of_gt hsz]; rw [hb3.cell (by simp)]; simp [go_sem]; done)))
    (first | (go_at_call 48; refine (Of_any _ _ _).mono ?_; rintro e w' ⟨rfl, rfl⟩) | (go_at_call 28; refine (errno_err b n _ ?_ ?_).mono ?_; exact HG.out; exact HCB.out; rintro e w3 ⟨rfl, hb3⟩; have d0 : w3.cell? ⟨w.heap.size, 0, none⟩ = some (.int .i64 0) := (hb3.cell (p := ⟨w.heap.size, 0, none⟩) (by simp; omega)).trans ((World.cell?_alloc_lt _ _ _ hsz).trans c0); have d1 : w3.cell? ⟨w.heap.size, 1, none⟩ = some (.int .i64 0) := (hb3.cell (p := ⟨w.heap.size, 1, none⟩) (by simp; omega)).trans ((World.cell?_alloc_lt _ _ _ hsz).trans c1); have d2 : w3.cell? ⟨w.heap.size, 2, none⟩ = some (.int .u64 0) := (hb3.cell (p := ⟨w.heap.size, 2, none⟩) (by simp; omega)).trans ((World.cell?_alloc_lt _ _ _ hsz).trans c2); have d3 : w3.cell? ⟨w.heap.size, 3, none⟩ = some (.string ⟨#[]⟩) := (hb3.cell (p := ⟨w.heap.size, 3, none⟩) (by simp; omega)).trans ((World.cell?_alloc_lt _ _ _ hsz).trans c3); have g0 : w3.frozen? ⟨w.heap.size, 0, none⟩ = false := (hb3.frozen (p := ⟨w.heap.size, 0, none⟩) (by simp; omega)).trans ((World.frozen?_alloc_old _ _ _ (Nat.ne_of_lt hsz)).trans f0); have g1 : w3.frozen? ⟨w.heap.size, 1, none⟩ = false := (hb3.frozen (p := ⟨w.heap.size, 1, none⟩) (by simp; omega)).trans ((World.frozen?_alloc_old _ _ _ (Nat.ne_of_lt hsz)).trans f1); have g2 : w3.frozen? ⟨w.heap.size, 2, none⟩ = false := (hb3.frozen (p := ⟨w.heap.size, 2, none⟩) (by simp; omega)).trans ((World.frozen?_alloc_old _ _ _ (Nat.ne_of_lt hsz)).trans f2); have g3 : w3.frozen? ⟨w.heap.size, 3, none⟩ = false := (hb3.frozen (p := ⟨w.heap.size, 3, none⟩) (by simp; omega)).trans ((World.frozen?_alloc_old _ _ _ (Nat.ne_of_lt hsz)).trans f3); have hb4 := hb3.mono (show w1.heap.size ≤ _ by simp)))
  all_goals go_wp2_with (go_at_call 48; refine (Of_any _ _ _).mono ?_; rintro e w' ⟨rfl, rfl⟩)
  all_goals refine bodyPost_ret (v := .tuple #[.agg #[.int .i64 0, .int .i64 0, .int .u64 0, .string ⟨#[]⟩], .int .i64 n]) (by simp [results, Tryz.results19, go_sem, d0, d1, d2, d3]) rfl ⟨rfl, ?_⟩
  all_goals repeat' first | exact ((HBW.out.alloc (Nat.le_of_lt hsz) _).drew).trans (hb4.mono (Nat.le_of_lt hsz)) | (refine Below.setCell ?_ (by simp) _)

set_option maxRecDepth 100000 in
set_option maxHeartbeats 1600000 in
theorem Parse_ok (s : ByteArray) (k i u : Int) (v : ByteArray) (w : World) (hC : ∀ W, Calls Tryz.prog 40 #[.string s] W (fun e w' => e = .returned (.tuple #[.agg #[.int .i64 k, .int .i64 i, .int .u64 u, .string v], .nilIface]) ∧ Below W.heap.size W w')) :
    Calls Tryz.prog 19 #[.string s] w fun e w' => e = .returned (.tuple #[.agg #[.int .i64 k, .int .i64 i, .int .u64 u, .string v], .int .i64 0]) ∧ Below w.heap.size w w' := by
  have HC := Lib.hid hC
  clear hC
  go_enter Tryz.func19, Tryz.ntmps19
  go_wp2_with (go_at_call 48; refine (Of_any _ _ _).mono ?_; rintro e w' ⟨rfl, rfl⟩)
  refine (HC.out _).mono ?_
  rintro e w1 ⟨rfl, hb1⟩
  obtain ⟨hc, hf, hsz⟩ := box_after hb1
  have c0 : w1.cell? ⟨w.heap.size, 0, none⟩ = some (.int .i64 0) := hc 0
  have c1 : w1.cell? ⟨w.heap.size, 1, none⟩ = some (.int .i64 0) := hc 1
  have c2 : w1.cell? ⟨w.heap.size, 2, none⟩ = some (.int .u64 0) := hc 2
  have c3 : w1.cell? ⟨w.heap.size, 3, none⟩ = some (.string ⟨#[]⟩) := hc 3
  have f0 := hf 0
  have f1 := hf 1
  have f2 := hf 2
  have f3 := hf 3
  have hbw := below_box hb1
  have HBW := Lib.hid hbw
  clear hc hf hb1 hbw
  go_wp2_with (go_at_call 48; refine (Of_any _ _ _).mono ?_; rintro e w' ⟨rfl, rfl⟩)
  go_region_held3 (fun w' => w'.cell? ⟨w1.heap.size, 0, none⟩ = some (.int .i64 k) ∧ w'.cell? ⟨w1.heap.size, 1, none⟩ = some (.int .i64 i) ∧ w'.cell? ⟨w1.heap.size, 2, none⟩ = some (.int .u64 u) ∧ w'.cell? ⟨w1.heap.size, 3, none⟩ = some (.string v)) (first | (go_keep; done) | (simp [*, go_sem]; done) | (refine ⟨?_, ?_, ?_, ?_⟩ <;> (rw [hb3.cell (by simp)]; simp [go_sem]; done)) | (refine ⟨?_, ?_, ?_, ?_⟩ <;> (simp [go_sem, Nat.ne_of_gt hsz]; rw [hb3.cell (by simp)]; simp [go_sem]; done)))
    (first | (go_at_call 48; refine (Of_any _ _ _).mono ?_; rintro e w' ⟨rfl, rfl⟩) | (go_at_call 28; refine (errno_nil _).mono ?_; rintro e w3 ⟨rfl, hb3⟩; have d0 : w3.cell? ⟨w.heap.size, 0, none⟩ = some (.int .i64 0) := (hb3.cell (p := ⟨w.heap.size, 0, none⟩) (by simp; omega)).trans ((World.cell?_alloc_lt _ _ _ hsz).trans c0); have d1 : w3.cell? ⟨w.heap.size, 1, none⟩ = some (.int .i64 0) := (hb3.cell (p := ⟨w.heap.size, 1, none⟩) (by simp; omega)).trans ((World.cell?_alloc_lt _ _ _ hsz).trans c1); have d2 : w3.cell? ⟨w.heap.size, 2, none⟩ = some (.int .u64 0) := (hb3.cell (p := ⟨w.heap.size, 2, none⟩) (by simp; omega)).trans ((World.cell?_alloc_lt _ _ _ hsz).trans c2); have d3 : w3.cell? ⟨w.heap.size, 3, none⟩ = some (.string ⟨#[]⟩) := (hb3.cell (p := ⟨w.heap.size, 3, none⟩) (by simp; omega)).trans ((World.cell?_alloc_lt _ _ _ hsz).trans c3); have g0 : w3.frozen? ⟨w.heap.size, 0, none⟩ = false := (hb3.frozen (p := ⟨w.heap.size, 0, none⟩) (by simp; omega)).trans ((World.frozen?_alloc_old _ _ _ (Nat.ne_of_lt hsz)).trans f0); have g1 : w3.frozen? ⟨w.heap.size, 1, none⟩ = false := (hb3.frozen (p := ⟨w.heap.size, 1, none⟩) (by simp; omega)).trans ((World.frozen?_alloc_old _ _ _ (Nat.ne_of_lt hsz)).trans f1); have g2 : w3.frozen? ⟨w.heap.size, 2, none⟩ = false := (hb3.frozen (p := ⟨w.heap.size, 2, none⟩) (by simp; omega)).trans ((World.frozen?_alloc_old _ _ _ (Nat.ne_of_lt hsz)).trans f2); have g3 : w3.frozen? ⟨w.heap.size, 3, none⟩ = false := (hb3.frozen (p := ⟨w.heap.size, 3, none⟩) (by simp; omega)).trans ((World.frozen?_alloc_old _ _ _ (Nat.ne_of_lt hsz)).trans f3); have hb4 := hb3.mono (show w1.heap.size ≤ _ by simp)))
  all_goals go_wp2_with (go_at_call 48; refine (Of_any _ _ _).mono ?_; rintro e w' ⟨rfl, rfl⟩)
  all_goals refine bodyPost_ret (v := .tuple #[.agg #[.int .i64 k, .int .i64 i, .int .u64 u, .string v], .int .i64 0]) (by simp [results, Tryz.results19, go_sem, d0, d1, d2, d3]) rfl ⟨rfl, ?_⟩
  all_goals repeat' first | exact ((HBW.out.alloc (Nat.le_of_lt hsz) _).drew).trans (hb4.mono (Nat.le_of_lt hsz)) | (refine Below.setCell ?_ (by simp) _)

theorem Parse_any (s : ByteArray) (w : World) (hz : s.size ≤ 800) (hg : HasET w) :
    Calls Tryz.prog 19 #[.string s] w fun e w' => e = .returned (parseRes s.data.toList) ∧ Below w.heap.size w w' := by
  have hC := fun W => parse_any s W hz
  unfold ParsePost at hC
  unfold parseRes
  generalize readOf s.data.toList = r at *
  cases hok : r.ok
  · simp only [hok, if_true] at hC ⊢
    exact Parse_err s 110 w hg hC
  · by_cases hc : chk r.k r.i r.u r.v = 0
    · simp only [hok, Bool.true_eq_false, if_false, hc, if_true] at hC ⊢
      exact Parse_ok s _ _ _ _ w hC
    · simp only [hok, Bool.true_eq_false, if_false, hc] at hC ⊢
      exact Parse_err s _ w hg hC
end Go.Proofs.YtifmfcaaofiboaaGreatDoor
