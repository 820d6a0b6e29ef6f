/-
  value.parse of a text that is read as a value of kind 3.
-/
import Derived.Test.YtifmfcaaofiboaaGreatDoorParse
namespace Go.Proofs.YtifmfcaaofiboaaGreatDoor
open Go.RowKit

set_option maxRecDepth 100000 in
set_option maxHeartbeats 1600000 in
theorem parseBool_no (s : ByteArray) (k i u : Int) (v : ByteArray) (w : World) (hk : ∀ W, Calls Tryz.prog 56 #[.string s] W fun e w' => e = .returned (.int .i64 3) ∧ W = w') (hr : Gives 78 #[.string s] (.tuple #[.agg #[.int .i64 k, .int .i64 i, .int .u64 u, .string v], .bool false])) :
    Calls Tryz.prog 40 #[.string s] w (IsErr2 110 zeroV w) := by
  obtain ⟨W1, hW1⟩ : ∃ W1, W1 = w.alloc (.cells #[.int .i64 0, .int .i64 0, .int .u64 0, .string ⟨#[]⟩] 25) := ⟨_, rfl⟩
  have hl : (Instr.lookup 91 (.map (some (w.heap.size + 1))) (.int .i64 3) false).run Tryz.prog (W1.alloc (.map mapKinds 5)) = .ok (kv 76 77 78) _ := kinds_got (by rw [show w.heap.size + 1 = W1.heap.size by rw [hW1]; simp]; exact heap_alloc_at _ _) rfl
  have hfl := fun W => field_read 76 77 78 W
  have hB1 : Below w.heap.size w (W1.alloc (.map mapKinds 5)) := by rw [hW1]; exact ((Below.refl _ _).alloc (Nat.le_refl _) _).alloc (by simp) _
  have hB1' : Below (w.heap.size + 1) W1 (W1.alloc (.map mapKinds 5)) := (Below.refl _ _).alloc (by rw [hW1]; simp) _
  have hz1 : (W1.alloc (.map mapKinds 5)).heap.size = w.heap.size + 2 := by rw [hW1]; simp
  have k0 : W1.cell? ⟨w.heap.size, 0, none⟩ = some (.int .i64 0) := by rw [hW1]; exact World.cell?_alloc_new _ _ _ 0
  have k1 : W1.cell? ⟨w.heap.size, 1, none⟩ = some (.int .i64 0) := by rw [hW1]; exact World.cell?_alloc_new _ _ _ 1
  have k2 : W1.cell? ⟨w.heap.size, 2, none⟩ = some (.int .u64 0) := by rw [hW1]; exact World.cell?_alloc_new _ _ _ 2
  have k3 : W1.cell? ⟨w.heap.size, 3, none⟩ = some (.string ⟨#[]⟩) := by rw [hW1]; exact World.cell?_alloc_new _ _ _ 3
  have kf : ∀ j, W1.frozen? ⟨w.heap.size, j, none⟩ = false := by rw [hW1]; simp
  have HK := Lib.hid hk
  have HR := Lib.hid hr
  have HB1 := Lib.hid hB1
  have HB1' := Lib.hid hB1'
  have HZ1 := Lib.hid hz1
  have HKs := Lib.hid (And.intro k0 (And.intro k1 (And.intro k2 (And.intro k3 kf))))
  clear hk hr hB1 hB1' hz1 k0 k1 k2 k3 kf
  subst hW1
  simp only [kv] at hl
  go_enter Tryz.func40, Tryz.ntmps40
  go_wp2_with (first | (go_at_call 48; refine (Of_any _ _ _).mono ?_; rintro e w' ⟨rfl, rfl⟩) | (go_at_call 47; refine (kinds_any _).mono ?_; rintro e w' ⟨rfl, rfl⟩) | (go_at_call 56; refine (HK.out _).mono ?_; rintro e w' ⟨rfl, rfl⟩))
  refine (HR.out _).mono ?_
  rintro e w2 ⟨rfl, hb2⟩
  obtain ⟨k0, k1, k2, k3, kf⟩ := HKs.out
  have hbx : Below (w.heap.size + 1) _ w2 := HB1'.out.trans (hb2.mono (by rw [HZ1.out]; omega))
  have hbw : Below w.heap.size w w2 := HB1.out.trans (hb2.mono (by rw [HZ1.out]; omega))
  have hsz : w.heap.size + 2 ≤ w2.heap.size := by have := hb2.size; rw [HZ1.out] at this; exact this
  have c0 : w2.cell? ⟨w.heap.size, 0, none⟩ = some (.int .i64 0) := (hbx.cell (p := ⟨w.heap.size, 0, none⟩) (by simp)).trans k0
  have c1 : w2.cell? ⟨w.heap.size, 1, none⟩ = some (.int .i64 0) := (hbx.cell (p := ⟨w.heap.size, 1, none⟩) (by simp)).trans k1
  have c2 : w2.cell? ⟨w.heap.size, 2, none⟩ = some (.int .u64 0) := (hbx.cell (p := ⟨w.heap.size, 2, none⟩) (by simp)).trans k2
  have c3 : w2.cell? ⟨w.heap.size, 3, none⟩ = some (.string ⟨#[]⟩) := (hbx.cell (p := ⟨w.heap.size, 3, none⟩) (by simp)).trans k3
  have f0 := (hbx.frozen (p := ⟨w.heap.size, 0, none⟩) (by simp)).trans (kf 0)
  have f1 := (hbx.frozen (p := ⟨w.heap.size, 1, none⟩) (by simp)).trans (kf 1)
  have f2 := (hbx.frozen (p := ⟨w.heap.size, 2, none⟩) (by simp)).trans (kf 2)
  have f3 := (hbx.frozen (p := ⟨w.heap.size, 3, none⟩) (by simp)).trans (kf 3)
  have hs0 : w.heap.size < w2.heap.size := by omega
  have hs1 : w.heap.size < w2.heap.size + 1 := by omega
  have hs2 : w.heap.size < w2.heap.size + 1 + 1 := by omega
  clear hl hfl k0 k1 k2 k3 kf hbx hb2
  have HBW := Lib.hid hbw
  clear hbw
  go_wp2_with (go_at_call 48; refine (Of_any _ _ _).mono ?_; rintro e w' ⟨rfl, rfl⟩)
  refine bodyPost_ret (v := .tuple #[zeroV, .iface 125 (.pointer (some ⟨w2.heap.size + 1, 0, none⟩))]) (by simp [zeroV, results, Tryz.results40, go_sem, c0, c1, c2, c3, hs0, hs1]) rfl ⟨w2.heap.size + 1, rfl, ?_, ?_⟩
  · simp [go_sem]
  · repeat' first | exact HBW.out | (refine Below.alloc ?_ (by simp; omega) _) | (refine Below.setCell ?_ (by simp) _)

set_option maxRecDepth 100000 in
set_option maxHeartbeats 1600000 in
theorem parseBool_ok (s : ByteArray) (k i u : Int) (v : ByteArray) (w : World) (hk : ∀ W, Calls Tryz.prog 56 #[.string s] W fun e w' => e = .returned (.int .i64 3) ∧ W = w') (hr : Gives 78 #[.string s] (.tuple #[.agg #[.int .i64 k, .int .i64 i, .int .u64 u, .string v], .bool true])) (hc : chk k i u v = 0) :
    Calls Tryz.prog 40 #[.string s] w (fun e w' => e = .returned (.tuple #[.agg #[.int .i64 k, .int .i64 i, .int .u64 u, .string v], .nilIface]) ∧ Below w.heap.size w w') := by
  obtain ⟨W1, hW1⟩ : ∃ W1, W1 = w.alloc (.cells #[.int .i64 0, .int .i64 0, .int .u64 0, .string ⟨#[]⟩] 25) := ⟨_, rfl⟩
  have hl : (Instr.lookup 91 (.map (some (w.heap.size + 1))) (.int .i64 3) false).run Tryz.prog (W1.alloc (.map mapKinds 5)) = .ok (kv 76 77 78) _ := kinds_got (by rw [show w.heap.size + 1 = W1.heap.size by rw [hW1]; simp]; exact heap_alloc_at _ _) rfl
  have hfl := fun W => field_read 76 77 78 W
  have hB1 : Below w.heap.size w (W1.alloc (.map mapKinds 5)) := by rw [hW1]; exact ((Below.refl _ _).alloc (Nat.le_refl _) _).alloc (by simp) _
  have hB1' : Below (w.heap.size + 1) W1 (W1.alloc (.map mapKinds 5)) := (Below.refl _ _).alloc (by rw [hW1]; simp) _
  have hz1 : (W1.alloc (.map mapKinds 5)).heap.size = w.heap.size + 2 := by rw [hW1]; simp
  have k0 : W1.cell? ⟨w.heap.size, 0, none⟩ = some (.int .i64 0) := by rw [hW1]; exact World.cell?_alloc_new _ _ _ 0
  have k1 : W1.cell? ⟨w.heap.size, 1, none⟩ = some (.int .i64 0) := by rw [hW1]; exact World.cell?_alloc_new _ _ _ 1
  have k2 : W1.cell? ⟨w.heap.size, 2, none⟩ = some (.int .u64 0) := by rw [hW1]; exact World.cell?_alloc_new _ _ _ 2
  have k3 : W1.cell? ⟨w.heap.size, 3, none⟩ = some (.string ⟨#[]⟩) := by rw [hW1]; exact World.cell?_alloc_new _ _ _ 3
  have kf : ∀ j, W1.frozen? ⟨w.heap.size, j, none⟩ = false := by rw [hW1]; simp
  have HK := Lib.hid hk
  have HR := Lib.hid hr
  have HB1 := Lib.hid hB1
  have HB1' := Lib.hid hB1'
  have HZ1 := Lib.hid hz1
  have HKs := Lib.hid (And.intro k0 (And.intro k1 (And.intro k2 (And.intro k3 kf))))
  have HC := Lib.hid hc
  clear hc
  clear hk hr hB1 hB1' hz1 k0 k1 k2 k3 kf
  subst hW1
  simp only [kv] at hl
  go_enter Tryz.func40, Tryz.ntmps40
  go_wp2_with (first | (go_at_call 48; refine (Of_any _ _ _).mono ?_; rintro e w' ⟨rfl, rfl⟩) | (go_at_call 47; refine (kinds_any _).mono ?_; rintro e w' ⟨rfl, rfl⟩) | (go_at_call 56; refine (HK.out _).mono ?_; rintro e w' ⟨rfl, rfl⟩))
  refine (HR.out _).mono ?_
  rintro e w2 ⟨rfl, hb2⟩
  obtain ⟨k0, k1, k2, k3, kf⟩ := HKs.out
  have hbx : Below (w.heap.size + 1) _ w2 := HB1'.out.trans (hb2.mono (by rw [HZ1.out]; omega))
  have hbw : Below w.heap.size w w2 := HB1.out.trans (hb2.mono (by rw [HZ1.out]; omega))
  have hsz : w.heap.size + 2 ≤ w2.heap.size := by have := hb2.size; rw [HZ1.out] at this; exact this
  have c0 : w2.cell? ⟨w.heap.size, 0, none⟩ = some (.int .i64 0) := (hbx.cell (p := ⟨w.heap.size, 0, none⟩) (by simp)).trans k0
  have c1 : w2.cell? ⟨w.heap.size, 1, none⟩ = some (.int .i64 0) := (hbx.cell (p := ⟨w.heap.size, 1, none⟩) (by simp)).trans k1
  have c2 : w2.cell? ⟨w.heap.size, 2, none⟩ = some (.int .u64 0) := (hbx.cell (p := ⟨w.heap.size, 2, none⟩) (by simp)).trans k2
  have c3 : w2.cell? ⟨w.heap.size, 3, none⟩ = some (.string ⟨#[]⟩) := (hbx.cell (p := ⟨w.heap.size, 3, none⟩) (by simp)).trans k3
  have f0 := (hbx.frozen (p := ⟨w.heap.size, 0, none⟩) (by simp)).trans (kf 0)
  have f1 := (hbx.frozen (p := ⟨w.heap.size, 1, none⟩) (by simp)).trans (kf 1)
  have f2 := (hbx.frozen (p := ⟨w.heap.size, 2, none⟩) (by simp)).trans (kf 2)
  have f3 := (hbx.frozen (p := ⟨w.heap.size, 3, none⟩) (by simp)).trans (kf 3)
  have hs0 : w.heap.size < w2.heap.size := by omega
  have hs1 : w.heap.size < w2.heap.size + 1 := by omega
  have hs2 : w.heap.size < w2.heap.size + 1 + 1 := by omega
  clear hl hfl k0 k1 k2 k3 kf hbx hb2
  have HBW := Lib.hid hbw
  clear hbw
  go_wp2_with (go_at_call 48; refine (Of_any _ _ _).mono ?_; rintro e w' ⟨rfl, rfl⟩)
  refine (check_zero _ _ _ _ _ HC.out).mono ?_
  rintro e w3 ⟨rfl, hb3⟩
  have hbz : Below (w2.heap.size + 1) (w2.alloc (.cells #[.int .i64 k, .int .i64 i, .int .u64 u, .string v] 25)) w3 := hb3.mono (by simp)
  have d0 : w3.cell? ⟨w.heap.size, 0, none⟩ = some (.int .i64 0) := (hbz.cell (p := ⟨w.heap.size, 0, none⟩) (by simp; omega)).trans ((World.cell?_alloc_lt _ _ _ hs0).trans c0)
  have d1 : w3.cell? ⟨w.heap.size, 1, none⟩ = some (.int .i64 0) := (hbz.cell (p := ⟨w.heap.size, 1, none⟩) (by simp; omega)).trans ((World.cell?_alloc_lt _ _ _ hs0).trans c1)
  have d2 : w3.cell? ⟨w.heap.size, 2, none⟩ = some (.int .u64 0) := (hbz.cell (p := ⟨w.heap.size, 2, none⟩) (by simp; omega)).trans ((World.cell?_alloc_lt _ _ _ hs0).trans c2)
  have d3 : w3.cell? ⟨w.heap.size, 3, none⟩ = some (.string ⟨#[]⟩) := (hbz.cell (p := ⟨w.heap.size, 3, none⟩) (by simp; omega)).trans ((World.cell?_alloc_lt _ _ _ hs0).trans c3)
  have e0 : w3.frozen? ⟨w.heap.size, 0, none⟩ = false := (hbz.frozen (p := ⟨w.heap.size, 0, none⟩) (by simp; omega)).trans ((World.frozen?_alloc_old _ _ _ (Nat.ne_of_lt hs0)).trans f0)
  have e1 : w3.frozen? ⟨w.heap.size, 1, none⟩ = false := (hbz.frozen (p := ⟨w.heap.size, 1, none⟩) (by simp; omega)).trans ((World.frozen?_alloc_old _ _ _ (Nat.ne_of_lt hs0)).trans f1)
  have e2 : w3.frozen? ⟨w.heap.size, 2, none⟩ = false := (hbz.frozen (p := ⟨w.heap.size, 2, none⟩) (by simp; omega)).trans ((World.frozen?_alloc_old _ _ _ (Nat.ne_of_lt hs0)).trans f2)
  have e3 : w3.frozen? ⟨w.heap.size, 3, none⟩ = false := (hbz.frozen (p := ⟨w.heap.size, 3, none⟩) (by simp; omega)).trans ((World.frozen?_alloc_old _ _ _ (Nat.ne_of_lt hs0)).trans f3)
  have v0 : w3.cell? ⟨w2.heap.size, 0, none⟩ = some (.int .i64 k) := (hbz.cell (p := ⟨w2.heap.size, 0, none⟩) (by simp)).trans (World.cell?_alloc_new _ _ _ 0)
  have v1 : w3.cell? ⟨w2.heap.size, 1, none⟩ = some (.int .i64 i) := (hbz.cell (p := ⟨w2.heap.size, 1, none⟩) (by simp)).trans (World.cell?_alloc_new _ _ _ 1)
  have v2 : w3.cell? ⟨w2.heap.size, 2, none⟩ = some (.int .u64 u) := (hbz.cell (p := ⟨w2.heap.size, 2, none⟩) (by simp)).trans (World.cell?_alloc_new _ _ _ 2)
  have v3 : w3.cell? ⟨w2.heap.size, 3, none⟩ = some (.string v) := (hbz.cell (p := ⟨w2.heap.size, 3, none⟩) (by simp)).trans (World.cell?_alloc_new _ _ _ 3)
  have hbw3 : Below w.heap.size w w3 := (HBW.out.alloc (by omega) _).trans (hb3.mono (by simp; omega))
  have HBW3 := Lib.hid hbw3
  clear c0 c1 c2 c3 f0 f1 f2 f3 hb3 hbz hbw3
  go_wp2_with (go_at_call 48; refine (Of_any _ _ _).mono ?_; rintro e w' ⟨rfl, rfl⟩)
  refine bodyPost_ret (v := .tuple #[.agg #[.int .i64 k, .int .i64 i, .int .u64 u, .string v], .nilIface]) (by simp [results, Tryz.results40, go_sem, d0, d1, d2, d3]) rfl ⟨rfl, ?_⟩
  repeat' first | exact HBW3.out | (refine Below.setCell ?_ (by simp) _)

set_option maxRecDepth 100000 in
set_option maxHeartbeats 1600000 in
theorem parseBool_bad (s : ByteArray) (k i u : Int) (v : ByteArray) (w : World) (hk : ∀ W, Calls Tryz.prog 56 #[.string s] W fun e w' => e = .returned (.int .i64 3) ∧ W = w') (hr : Gives 78 #[.string s] (.tuple #[.agg #[.int .i64 k, .int .i64 i, .int .u64 u, .string v], .bool true])) (n : Int) (hc : chk k i u v = n) (hn : n ≠ 0) :
    Calls Tryz.prog 40 #[.string s] w (IsErr2 n zeroV w) := by
  obtain ⟨W1, hW1⟩ : ∃ W1, W1 = w.alloc (.cells #[.int .i64 0, .int .i64 0, .int .u64 0, .string ⟨#[]⟩] 25) := ⟨_, rfl⟩
  have hl : (Instr.lookup 91 (.map (some (w.heap.size + 1))) (.int .i64 3) false).run Tryz.prog (W1.alloc (.map mapKinds 5)) = .ok (kv 76 77 78) _ := kinds_got (by rw [show w.heap.size + 1 = W1.heap.size by rw [hW1]; simp]; exact heap_alloc_at _ _) rfl
  have hfl := fun W => field_read 76 77 78 W
  have hB1 : Below w.heap.size w (W1.alloc (.map mapKinds 5)) := by rw [hW1]; exact ((Below.refl _ _).alloc (Nat.le_refl _) _).alloc (by simp) _
  have hB1' : Below (w.heap.size + 1) W1 (W1.alloc (.map mapKinds 5)) := (Below.refl _ _).alloc (by rw [hW1]; simp) _
  have hz1 : (W1.alloc (.map mapKinds 5)).heap.size = w.heap.size + 2 := by rw [hW1]; simp
  have k0 : W1.cell? ⟨w.heap.size, 0, none⟩ = some (.int .i64 0) := by rw [hW1]; exact World.cell?_alloc_new _ _ _ 0
  have k1 : W1.cell? ⟨w.heap.size, 1, none⟩ = some (.int .i64 0) := by rw [hW1]; exact World.cell?_alloc_new _ _ _ 1
  have k2 : W1.cell? ⟨w.heap.size, 2, none⟩ = some (.int .u64 0) := by rw [hW1]; exact World.cell?_alloc_new _ _ _ 2
  have k3 : W1.cell? ⟨w.heap.size, 3, none⟩ = some (.string ⟨#[]⟩) := by rw [hW1]; exact World.cell?_alloc_new _ _ _ 3
  have kf : ∀ j, W1.frozen? ⟨w.heap.size, j, none⟩ = false := by rw [hW1]; simp
  have HK := Lib.hid hk
  have HR := Lib.hid hr
  have HB1 := Lib.hid hB1
  have HB1' := Lib.hid hB1'
  have HZ1 := Lib.hid hz1
  have HKs := Lib.hid (And.intro k0 (And.intro k1 (And.intro k2 (And.intro k3 kf))))
  have HC := Lib.hid hc
  clear hc
  have HN := Lib.hid hn
  clear hn
  clear hk hr hB1 hB1' hz1 k0 k1 k2 k3 kf
  subst hW1
  simp only [kv] at hl
  go_enter Tryz.func40, Tryz.ntmps40
  go_wp2_with (first | (go_at_call 48; refine (Of_any _ _ _).mono ?_; rintro e w' ⟨rfl, rfl⟩) | (go_at_call 47; refine (kinds_any _).mono ?_; rintro e w' ⟨rfl, rfl⟩) | (go_at_call 56; refine (HK.out _).mono ?_; rintro e w' ⟨rfl, rfl⟩))
  refine (HR.out _).mono ?_
  rintro e w2 ⟨rfl, hb2⟩
  obtain ⟨k0, k1, k2, k3, kf⟩ := HKs.out
  have hbx : Below (w.heap.size + 1) _ w2 := HB1'.out.trans (hb2.mono (by rw [HZ1.out]; omega))
  have hbw : Below w.heap.size w w2 := HB1.out.trans (hb2.mono (by rw [HZ1.out]; omega))
  have hsz : w.heap.size + 2 ≤ w2.heap.size := by have := hb2.size; rw [HZ1.out] at this; exact this
  have c0 : w2.cell? ⟨w.heap.size, 0, none⟩ = some (.int .i64 0) := (hbx.cell (p := ⟨w.heap.size, 0, none⟩) (by simp)).trans k0
  have c1 : w2.cell? ⟨w.heap.size, 1, none⟩ = some (.int .i64 0) := (hbx.cell (p := ⟨w.heap.size, 1, none⟩) (by simp)).trans k1
  have c2 : w2.cell? ⟨w.heap.size, 2, none⟩ = some (.int .u64 0) := (hbx.cell (p := ⟨w.heap.size, 2, none⟩) (by simp)).trans k2
  have c3 : w2.cell? ⟨w.heap.size, 3, none⟩ = some (.string ⟨#[]⟩) := (hbx.cell (p := ⟨w.heap.size, 3, none⟩) (by simp)).trans k3
  have f0 := (hbx.frozen (p := ⟨w.heap.size, 0, none⟩) (by simp)).trans (kf 0)
  have f1 := (hbx.frozen (p := ⟨w.heap.size, 1, none⟩) (by simp)).trans (kf 1)
  have f2 := (hbx.frozen (p := ⟨w.heap.size, 2, none⟩) (by simp)).trans (kf 2)
  have f3 := (hbx.frozen (p := ⟨w.heap.size, 3, none⟩) (by simp)).trans (kf 3)
  have hs0 : w.heap.size < w2.heap.size := by omega
  have hs1 : w.heap.size < w2.heap.size + 1 := by omega
  have hs2 : w.heap.size < w2.heap.size + 1 + 1 := by omega
  clear hl hfl k0 k1 k2 k3 kf hbx hb2
  have HBW := Lib.hid hbw
  clear hbw
  go_wp2_with (go_at_call 48; refine (Of_any _ _ _).mono ?_; rintro e w' ⟨rfl, rfl⟩)
  refine (check_err _ _ _ _ _ _ HC.out HN.out).mono ?_
  rintro e w3 ⟨b, rfl, hbb, hcb, hb3⟩
  have hbz : Below (w2.heap.size + 1) (w2.alloc (.cells #[.int .i64 k, .int .i64 i, .int .u64 u, .string v] 25)) w3 := hb3.mono (by simp)
  have d0 : w3.cell? ⟨w.heap.size, 0, none⟩ = some (.int .i64 0) := (hbz.cell (p := ⟨w.heap.size, 0, none⟩) (by simp; omega)).trans ((World.cell?_alloc_lt _ _ _ hs0).trans c0)
  have d1 : w3.cell? ⟨w.heap.size, 1, none⟩ = some (.int .i64 0) := (hbz.cell (p := ⟨w.heap.size, 1, none⟩) (by simp; omega)).trans ((World.cell?_alloc_lt _ _ _ hs0).trans c1)
  have d2 : w3.cell? ⟨w.heap.size, 2, none⟩ = some (.int .u64 0) := (hbz.cell (p := ⟨w.heap.size, 2, none⟩) (by simp; omega)).trans ((World.cell?_alloc_lt _ _ _ hs0).trans c2)
  have d3 : w3.cell? ⟨w.heap.size, 3, none⟩ = some (.string ⟨#[]⟩) := (hbz.cell (p := ⟨w.heap.size, 3, none⟩) (by simp; omega)).trans ((World.cell?_alloc_lt _ _ _ hs0).trans c3)
  have e0 : w3.frozen? ⟨w.heap.size, 0, none⟩ = false := (hbz.frozen (p := ⟨w.heap.size, 0, none⟩) (by simp; omega)).trans ((World.frozen?_alloc_old _ _ _ (Nat.ne_of_lt hs0)).trans f0)
  have e1 : w3.frozen? ⟨w.heap.size, 1, none⟩ = false := (hbz.frozen (p := ⟨w.heap.size, 1, none⟩) (by simp; omega)).trans ((World.frozen?_alloc_old _ _ _ (Nat.ne_of_lt hs0)).trans f1)
  have e2 : w3.frozen? ⟨w.heap.size, 2, none⟩ = false := (hbz.frozen (p := ⟨w.heap.size, 2, none⟩) (by simp; omega)).trans ((World.frozen?_alloc_old _ _ _ (Nat.ne_of_lt hs0)).trans f2)
  have e3 : w3.frozen? ⟨w.heap.size, 3, none⟩ = false := (hbz.frozen (p := ⟨w.heap.size, 3, none⟩) (by simp; omega)).trans ((World.frozen?_alloc_old _ _ _ (Nat.ne_of_lt hs0)).trans f3)
  have v0 : w3.cell? ⟨w2.heap.size, 0, none⟩ = some (.int .i64 k) := (hbz.cell (p := ⟨w2.heap.size, 0, none⟩) (by simp)).trans (World.cell?_alloc_new _ _ _ 0)
  have v1 : w3.cell? ⟨w2.heap.size, 1, none⟩ = some (.int .i64 i) := (hbz.cell (p := ⟨w2.heap.size, 1, none⟩) (by simp)).trans (World.cell?_alloc_new _ _ _ 1)
  have v2 : w3.cell? ⟨w2.heap.size, 2, none⟩ = some (.int .u64 u) := (hbz.cell (p := ⟨w2.heap.size, 2, none⟩) (by simp)).trans (World.cell?_alloc_new _ _ _ 2)
  have v3 : w3.cell? ⟨w2.heap.size, 3, none⟩ = some (.string v) := (hbz.cell (p := ⟨w2.heap.size, 3, none⟩) (by simp)).trans (World.cell?_alloc_new _ _ _ 3)
  have hbw3 : Below w.heap.size w w3 := (HBW.out.alloc (by omega) _).trans (hb3.mono (by simp; omega))
  have HBW3 := Lib.hid hbw3
  have hbb' : w.heap.size ≠ b := by simp at hbb; omega
  clear c0 c1 c2 c3 f0 f1 f2 f3 hb3 hbz hbw3
  go_wp2_with (go_at_call 48; refine (Of_any _ _ _).mono ?_; rintro e w' ⟨rfl, rfl⟩)
  refine bodyPost_ret (v := .tuple #[zeroV, .iface 125 (.pointer (some ⟨b, 0, none⟩))]) (by simp [zeroV, results, Tryz.results40, go_sem, d0, d1, d2, d3]) rfl ⟨b, rfl, ?_, ?_⟩
  · simp [go_sem, hcb]
  · repeat' first | exact HBW3.out | (refine Below.setCell ?_ (by simp) _)
end Go.Proofs.YtifmfcaaofiboaaGreatDoor
