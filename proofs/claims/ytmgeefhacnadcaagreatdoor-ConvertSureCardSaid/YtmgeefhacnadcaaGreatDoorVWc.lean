/-
  (convert.ways).convert, end by end.
-/
import Derived.Test.YtmgeefhacnadcaaGreatDoorVBet0
namespace Go.Proofs.YtmgeefhacnadcaaGreatDoor
open Go.RowKit

set_option maxRecDepth 100000 in
set_option maxHeartbeats 4000000 in
theorem wconv_bad (c d : Col) (v : Vl) (r : Nat) (w : World) (n : Int) (hB : ∀ W, Below w.heap.size w W → Calls Tryz.prog 32 #[.map (some r), .agg #[.string c.n, .int .i64 c.t, .int .i64 c.z, .bool c.u], .agg #[.string d.n, .int .i64 d.t, .int .i64 d.z, .bool d.u]] W fun e w' => ∃ b, e = .returned (.tuple #[.agg #[.string ⟨#[]⟩, .int .i64 0, .int .i64 0, .bool false, .string ⟨#[]⟩, .int .i64 0, .int .i64 0, .bool false, .nilFunc, .nilFunc, .bool false], .iface 147 (.pointer (some ⟨b, 0, none⟩))]) ∧ W.heap.size ≤ b ∧ w'.cell? ⟨b, 1, none⟩ = some (.int .i64 n) ∧ Below W.heap.size W w') :
    Calls Tryz.prog 27 #[.map (some r), .agg #[.string c.n, .int .i64 c.t, .int .i64 c.z, .bool c.u], .agg #[.string d.n, .int .i64 d.t, .int .i64 d.z, .bool d.u], .agg #[.int .i64 v.k, .int .i64 v.i, .int .u64 v.u, .string v.s]] w fun e w' => ∃ b, e = .returned (.tuple #[.agg #[.int .i64 0, .int .i64 0, .int .u64 0, .string ⟨#[]⟩], .iface 147 (.pointer (some ⟨b, 0, none⟩))]) ∧ w.heap.size ≤ b ∧ w'.cell? ⟨b, 1, none⟩ = some (.int .i64 n) ∧ Below w.heap.size w w' := by
  have HBT := Lib.hid hB
  clear hB
  go_enter Tryz.func27, Tryz.ntmps27
  go_upto_region 1 with fail
  obtain ⟨W1, hW1⟩ : ∃ W1, (((w.alloc (.cells #[.string c.n, .int .i64 c.t, .int .i64 c.z, .bool c.u] 24)).alloc (.cells #[.string d.n, .int .i64 d.t, .int .i64 d.z, .bool d.u] 24)).alloc (.cells #[.int .i64 v.k, .int .i64 v.i, .int .u64 v.u, .string v.s] 28)).alloc (.cells #[.int .i64 0, .int .i64 0, .int .u64 0, .string ⟨#[]⟩] 28) = W1 := ⟨_, rfl⟩
  have hb1 : Below w.heap.size w W1 := by rw [← hW1]; exact ((((Below.refl _ _).alloc (Nat.le_refl _) _).alloc (by simp) _).alloc (by simp; omega) _).alloc (by simp; omega) _
  have a0 : W1.cell? ⟨w.heap.size, 0, none⟩ = some (.string c.n) := by rw [← hW1]; simp [go_sem]
  have a1 : W1.cell? ⟨w.heap.size, 1, none⟩ = some (.int .i64 c.t) := by rw [← hW1]; simp [go_sem]
  have a2 : W1.cell? ⟨w.heap.size, 2, none⟩ = some (.int .i64 c.z) := by rw [← hW1]; simp [go_sem]
  have a3 : W1.cell? ⟨w.heap.size, 3, none⟩ = some (.bool c.u) := by rw [← hW1]; simp [go_sem]
  have b0 : W1.cell? ⟨w.heap.size + 1, 0, none⟩ = some (.string d.n) := by rw [← hW1]; simp [go_sem]
  have b1 : W1.cell? ⟨w.heap.size + 1, 1, none⟩ = some (.int .i64 d.t) := by rw [← hW1]; simp [go_sem]
  have b2 : W1.cell? ⟨w.heap.size + 1, 2, none⟩ = some (.int .i64 d.z) := by rw [← hW1]; simp [go_sem]
  have b3 : W1.cell? ⟨w.heap.size + 1, 3, none⟩ = some (.bool d.u) := by rw [← hW1]; simp [go_sem]
  have v0 : W1.cell? ⟨w.heap.size + 1 + 1, 0, none⟩ = some (.int .i64 v.k) := by rw [← hW1]; simp [go_sem]
  have v1 : W1.cell? ⟨w.heap.size + 1 + 1, 1, none⟩ = some (.int .i64 v.i) := by rw [← hW1]; simp [go_sem]
  have v2 : W1.cell? ⟨w.heap.size + 1 + 1, 2, none⟩ = some (.int .u64 v.u) := by rw [← hW1]; simp [go_sem]
  have v3 : W1.cell? ⟨w.heap.size + 1 + 1, 3, none⟩ = some (.string v.s) := by rw [← hW1]; simp [go_sem]
  have r0 : W1.cell? ⟨w.heap.size + 1 + 1 + 1, 0, none⟩ = some (.int .i64 0) := by rw [← hW1]; simp [go_sem]
  have r1 : W1.cell? ⟨w.heap.size + 1 + 1 + 1, 1, none⟩ = some (.int .i64 0) := by rw [← hW1]; simp [go_sem]
  have r2 : W1.cell? ⟨w.heap.size + 1 + 1 + 1, 2, none⟩ = some (.int .u64 0) := by rw [← hW1]; simp [go_sem]
  have r3 : W1.cell? ⟨w.heap.size + 1 + 1 + 1, 3, none⟩ = some (.string ⟨#[]⟩) := by rw [← hW1]; simp [go_sem]
  have fr0 : W1.frozen? ⟨w.heap.size + 1 + 1 + 1, 0, none⟩ = false := by rw [← hW1]; simp [go_sem]
  have fr1 : W1.frozen? ⟨w.heap.size + 1 + 1 + 1, 1, none⟩ = false := by rw [← hW1]; simp [go_sem]
  have fr2 : W1.frozen? ⟨w.heap.size + 1 + 1 + 1, 2, none⟩ = false := by rw [← hW1]; simp [go_sem]
  have fr3 : W1.frozen? ⟨w.heap.size + 1 + 1 + 1, 3, none⟩ = false := by rw [← hW1]; simp [go_sem]
  rw [hW1]
  have HB1 := Lib.hid hb1
  clear hW1 hb1
  go_wp2_with fail
  refine (HBT.out _ HB1.out).mono ?_
  rintro e w2 ⟨b, rfl, hnb, hcb, hb2⟩
  have HNB := Lib.hid (show w.heap.size + 1 + 1 + 1 < b by have h : w.heap.size + 1 + 1 + 1 < W1.heap.size := World.block_lt_of_cell? _ _ r0; omega)
  clear hnb
  have HB2 := Lib.hid (HB1.out.trans (hb2.mono HB1.out.size))
  replace fr0 := keep_frozen hb2 (World.block_lt_of_cell? _ _ r0) fr0
  replace fr1 := keep_frozen hb2 (World.block_lt_of_cell? _ _ r1) fr1
  replace fr2 := keep_frozen hb2 (World.block_lt_of_cell? _ _ r2) fr2
  replace fr3 := keep_frozen hb2 (World.block_lt_of_cell? _ _ r3) fr3
  replace a0 := keep_cell hb2 a0
  replace a1 := keep_cell hb2 a1
  replace a2 := keep_cell hb2 a2
  replace a3 := keep_cell hb2 a3
  replace b0 := keep_cell hb2 b0
  replace b1 := keep_cell hb2 b1
  replace b2 := keep_cell hb2 b2
  replace b3 := keep_cell hb2 b3
  replace v0 := keep_cell hb2 v0
  replace v1 := keep_cell hb2 v1
  replace v2 := keep_cell hb2 v2
  replace v3 := keep_cell hb2 v3
  replace r0 := keep_cell hb2 r0
  replace r1 := keep_cell hb2 r1
  replace r2 := keep_cell hb2 r2
  replace r3 := keep_cell hb2 r3
  have hy3 : w.heap.size + 1 + 1 + 1 < w2.heap.size := World.block_lt_of_cell? _ _ r0
  have hy2 : w.heap.size + 1 + 1 < w2.heap.size := by omega
  have hy1 : w.heap.size + 1 < w2.heap.size := by omega
  have hy0 : w.heap.size < w2.heap.size := by omega
  have hbl := World.block_lt_of_cell? _ _ hcb
  have HCB := Lib.hid hcb
  clear hb2 hcb
  go_upto_region 2 with fail
  obtain ⟨W3, hW3⟩ : ∃ W3, w2.alloc (.cells #[.string ⟨#[]⟩, .int .i64 0, .int .i64 0, .bool false, .string ⟨#[]⟩, .int .i64 0, .int .i64 0, .bool false, .nilFunc, .nilFunc, .bool false] 80) = W3 := ⟨_, rfl⟩
  have hb3 : Below w2.heap.size w2 W3 := by rw [← hW3]; exact (Below.refl _ _).alloc (Nat.le_refl _) _
  replace fr0 := keep_frozen hb3 (World.block_lt_of_cell? _ _ r0) fr0
  replace fr1 := keep_frozen hb3 (World.block_lt_of_cell? _ _ r1) fr1
  replace fr2 := keep_frozen hb3 (World.block_lt_of_cell? _ _ r2) fr2
  replace fr3 := keep_frozen hb3 (World.block_lt_of_cell? _ _ r3) fr3
  replace a0 := keep_cell hb3 a0
  replace a1 := keep_cell hb3 a1
  replace a2 := keep_cell hb3 a2
  replace a3 := keep_cell hb3 a3
  replace b0 := keep_cell hb3 b0
  replace b1 := keep_cell hb3 b1
  replace b2 := keep_cell hb3 b2
  replace b3 := keep_cell hb3 b3
  replace v0 := keep_cell hb3 v0
  replace v1 := keep_cell hb3 v1
  replace v2 := keep_cell hb3 v2
  replace v3 := keep_cell hb3 v3
  replace r0 := keep_cell hb3 r0
  replace r1 := keep_cell hb3 r1
  replace r2 := keep_cell hb3 r2
  replace r3 := keep_cell hb3 r3
  have HCB3 := Lib.hid (keep_cell hb3 HCB.out)
  have HB3 := Lib.hid (HB2.out.trans (hb3.mono HB2.out.size))
  rw [hW3]
  clear hW3 hb3 hy0 hy1 hy2 hy3
  go_wp2_with fail
  refine bodyPost_ret (v := .tuple #[.agg #[.int .i64 0, .int .i64 0, .int .u64 0, .string ⟨#[]⟩], .iface 147 (.pointer (some ⟨b, 0, none⟩))]) (by simp [results, Tryz.results27, go_sem, r0, r1, r2, r3]) rfl ⟨b, rfl, by have := HNB.out; omega, ?_, ?_⟩
  · have hne : b ≠ w.heap.size + 1 + 1 + 1 := by have := HNB.out; omega
    have hcb3 := HCB3.out
    simp [go_sem, hcb3]
  · repeat' first | exact HB3.out | (refine Below.setCell ?_ (by simp; try omega) _)
end Go.Proofs.YtmgeefhacnadcaaGreatDoor
namespace Go.Proofs.YtmgeefhacnadcaaGreatDoor
open Go.RowKit

set_option maxRecDepth 100000 in
set_option maxHeartbeats 4000000 in
theorem wconv_errB (c d : Col) (v : Vl) (r : Nat) (w : World) (hB : ∀ W, Below w.heap.size w W → Calls Tryz.prog 32 #[.map (some r), .agg #[.string c.n, .int .i64 c.t, .int .i64 c.z, .bool c.u], .agg #[.string d.n, .int .i64 d.t, .int .i64 d.z, .bool d.u]] W fun e w' => e = .returned (.tuple #[.agg #[.string d.n, .int .i64 d.t, .int .i64 d.z, .bool d.u, .string c.n, .int .i64 c.t, .int .i64 c.z, .bool c.u, .nilFunc, .nilFunc, .bool false], .nilIface]) ∧ Below W.heap.size W w') (n : Int) (hC : ∀ W, Below w.heap.size w W → Calls Tryz.prog 59 #[.agg #[.string d.n, .int .i64 d.t, .int .i64 d.z, .bool d.u, .string c.n, .int .i64 c.t, .int .i64 c.z, .bool c.u, .nilFunc, .nilFunc, .bool false], .agg #[.int .i64 v.k, .int .i64 v.i, .int .u64 v.u, .string v.s]] W fun e w' => ∃ b, e = .returned (.tuple #[.agg #[.int .i64 0, .int .i64 0, .int .u64 0, .string ⟨#[]⟩], .iface 147 (.pointer (some ⟨b, 0, none⟩))]) ∧ W.heap.size ≤ b ∧ w'.cell? ⟨b, 1, none⟩ = some (.int .i64 n) ∧ Below W.heap.size W w') :
    Calls Tryz.prog 27 #[.map (some r), .agg #[.string c.n, .int .i64 c.t, .int .i64 c.z, .bool c.u], .agg #[.string d.n, .int .i64 d.t, .int .i64 d.z, .bool d.u], .agg #[.int .i64 v.k, .int .i64 v.i, .int .u64 v.u, .string v.s]] w fun e w' => ∃ b, e = .returned (.tuple #[.agg #[.int .i64 0, .int .i64 0, .int .u64 0, .string ⟨#[]⟩], .iface 147 (.pointer (some ⟨b, 0, none⟩))]) ∧ w.heap.size ≤ b ∧ w'.cell? ⟨b, 1, none⟩ = some (.int .i64 n) ∧ Below w.heap.size w w' := by
  have HBT := Lib.hid hB
  have HCT := Lib.hid hC
  clear hB hC
  go_enter Tryz.func27, Tryz.ntmps27
  go_upto_region 1 with fail
  obtain ⟨W1, hW1⟩ : ∃ W1, (((w.alloc (.cells #[.string c.n, .int .i64 c.t, .int .i64 c.z, .bool c.u] 24)).alloc (.cells #[.string d.n, .int .i64 d.t, .int .i64 d.z, .bool d.u] 24)).alloc (.cells #[.int .i64 v.k, .int .i64 v.i, .int .u64 v.u, .string v.s] 28)).alloc (.cells #[.int .i64 0, .int .i64 0, .int .u64 0, .string ⟨#[]⟩] 28) = W1 := ⟨_, rfl⟩
  have hb1 : Below w.heap.size w W1 := by rw [← hW1]; exact ((((Below.refl _ _).alloc (Nat.le_refl _) _).alloc (by simp) _).alloc (by simp; omega) _).alloc (by simp; omega) _
  have a0 : W1.cell? ⟨w.heap.size, 0, none⟩ = some (.string c.n) := by rw [← hW1]; simp [go_sem]
  have a1 : W1.cell? ⟨w.heap.size, 1, none⟩ = some (.int .i64 c.t) := by rw [← hW1]; simp [go_sem]
  have a2 : W1.cell? ⟨w.heap.size, 2, none⟩ = some (.int .i64 c.z) := by rw [← hW1]; simp [go_sem]
  have a3 : W1.cell? ⟨w.heap.size, 3, none⟩ = some (.bool c.u) := by rw [← hW1]; simp [go_sem]
  have b0 : W1.cell? ⟨w.heap.size + 1, 0, none⟩ = some (.string d.n) := by rw [← hW1]; simp [go_sem]
  have b1 : W1.cell? ⟨w.heap.size + 1, 1, none⟩ = some (.int .i64 d.t) := by rw [← hW1]; simp [go_sem]
  have b2 : W1.cell? ⟨w.heap.size + 1, 2, none⟩ = some (.int .i64 d.z) := by rw [← hW1]; simp [go_sem]
  have b3 : W1.cell? ⟨w.heap.size + 1, 3, none⟩ = some (.bool d.u) := by rw [← hW1]; simp [go_sem]
  have v0 : W1.cell? ⟨w.heap.size + 1 + 1, 0, none⟩ = some (.int .i64 v.k) := by rw [← hW1]; simp [go_sem]
  have v1 : W1.cell? ⟨w.heap.size + 1 + 1, 1, none⟩ = some (.int .i64 v.i) := by rw [← hW1]; simp [go_sem]
  have v2 : W1.cell? ⟨w.heap.size + 1 + 1, 2, none⟩ = some (.int .u64 v.u) := by rw [← hW1]; simp [go_sem]
  have v3 : W1.cell? ⟨w.heap.size + 1 + 1, 3, none⟩ = some (.string v.s) := by rw [← hW1]; simp [go_sem]
  have r0 : W1.cell? ⟨w.heap.size + 1 + 1 + 1, 0, none⟩ = some (.int .i64 0) := by rw [← hW1]; simp [go_sem]
  have r1 : W1.cell? ⟨w.heap.size + 1 + 1 + 1, 1, none⟩ = some (.int .i64 0) := by rw [← hW1]; simp [go_sem]
  have r2 : W1.cell? ⟨w.heap.size + 1 + 1 + 1, 2, none⟩ = some (.int .u64 0) := by rw [← hW1]; simp [go_sem]
  have r3 : W1.cell? ⟨w.heap.size + 1 + 1 + 1, 3, none⟩ = some (.string ⟨#[]⟩) := by rw [← hW1]; simp [go_sem]
  have fr0 : W1.frozen? ⟨w.heap.size + 1 + 1 + 1, 0, none⟩ = false := by rw [← hW1]; simp [go_sem]
  have fr1 : W1.frozen? ⟨w.heap.size + 1 + 1 + 1, 1, none⟩ = false := by rw [← hW1]; simp [go_sem]
  have fr2 : W1.frozen? ⟨w.heap.size + 1 + 1 + 1, 2, none⟩ = false := by rw [← hW1]; simp [go_sem]
  have fr3 : W1.frozen? ⟨w.heap.size + 1 + 1 + 1, 3, none⟩ = false := by rw [← hW1]; simp [go_sem]
  rw [hW1]
  have HB1 := Lib.hid hb1
  clear hW1 hb1
  go_wp2_with fail
  refine (HBT.out _ HB1.out).mono ?_
  rintro e w2 ⟨rfl, hb2⟩
  have HB2 := Lib.hid (HB1.out.trans (hb2.mono HB1.out.size))
  replace fr0 := keep_frozen hb2 (World.block_lt_of_cell? _ _ r0) fr0
  replace fr1 := keep_frozen hb2 (World.block_lt_of_cell? _ _ r1) fr1
  replace fr2 := keep_frozen hb2 (World.block_lt_of_cell? _ _ r2) fr2
  replace fr3 := keep_frozen hb2 (World.block_lt_of_cell? _ _ r3) fr3
  replace a0 := keep_cell hb2 a0
  replace a1 := keep_cell hb2 a1
  replace a2 := keep_cell hb2 a2
  replace a3 := keep_cell hb2 a3
  replace b0 := keep_cell hb2 b0
  replace b1 := keep_cell hb2 b1
  replace b2 := keep_cell hb2 b2
  replace b3 := keep_cell hb2 b3
  replace v0 := keep_cell hb2 v0
  replace v1 := keep_cell hb2 v1
  replace v2 := keep_cell hb2 v2
  replace v3 := keep_cell hb2 v3
  replace r0 := keep_cell hb2 r0
  replace r1 := keep_cell hb2 r1
  replace r2 := keep_cell hb2 r2
  replace r3 := keep_cell hb2 r3
  have hy3 : w.heap.size + 1 + 1 + 1 < w2.heap.size := World.block_lt_of_cell? _ _ r0
  have hy2 : w.heap.size + 1 + 1 < w2.heap.size := by omega
  have hy1 : w.heap.size + 1 < w2.heap.size := by omega
  have hy0 : w.heap.size < w2.heap.size := by omega
  clear hb2
  go_upto_region 2 with fail
  obtain ⟨W3, hW3⟩ : ∃ W3, w2.alloc (.cells #[.string d.n, .int .i64 d.t, .int .i64 d.z, .bool d.u, .string c.n, .int .i64 c.t, .int .i64 c.z, .bool c.u, .nilFunc, .nilFunc, .bool false] 80) = W3 := ⟨_, rfl⟩
  have hb3 : Below w2.heap.size w2 W3 := by rw [← hW3]; exact (Below.refl _ _).alloc (Nat.le_refl _) _
  have q0 : W3.cell? ⟨w2.heap.size, 0, none⟩ = some (.string d.n) := by rw [← hW3]; simp [go_sem]
  have q1 : W3.cell? ⟨w2.heap.size, 1, none⟩ = some (.int .i64 d.t) := by rw [← hW3]; simp [go_sem]
  have q2 : W3.cell? ⟨w2.heap.size, 2, none⟩ = some (.int .i64 d.z) := by rw [← hW3]; simp [go_sem]
  have q3 : W3.cell? ⟨w2.heap.size, 3, none⟩ = some (.bool d.u) := by rw [← hW3]; simp [go_sem]
  have q4 : W3.cell? ⟨w2.heap.size, 4, none⟩ = some (.string c.n) := by rw [← hW3]; simp [go_sem]
  have q5 : W3.cell? ⟨w2.heap.size, 5, none⟩ = some (.int .i64 c.t) := by rw [← hW3]; simp [go_sem]
  have q6 : W3.cell? ⟨w2.heap.size, 6, none⟩ = some (.int .i64 c.z) := by rw [← hW3]; simp [go_sem]
  have q7 : W3.cell? ⟨w2.heap.size, 7, none⟩ = some (.bool c.u) := by rw [← hW3]; simp [go_sem]
  have q8 : W3.cell? ⟨w2.heap.size, 8, none⟩ = some (.nilFunc) := by rw [← hW3]; simp [go_sem]
  have q9 : W3.cell? ⟨w2.heap.size, 9, none⟩ = some (.nilFunc) := by rw [← hW3]; simp [go_sem]
  have q10 : W3.cell? ⟨w2.heap.size, 10, none⟩ = some (.bool false) := by rw [← hW3]; simp [go_sem]
  replace fr0 := keep_frozen hb3 (World.block_lt_of_cell? _ _ r0) fr0
  replace fr1 := keep_frozen hb3 (World.block_lt_of_cell? _ _ r1) fr1
  replace fr2 := keep_frozen hb3 (World.block_lt_of_cell? _ _ r2) fr2
  replace fr3 := keep_frozen hb3 (World.block_lt_of_cell? _ _ r3) fr3
  replace a0 := keep_cell hb3 a0
  replace a1 := keep_cell hb3 a1
  replace a2 := keep_cell hb3 a2
  replace a3 := keep_cell hb3 a3
  replace b0 := keep_cell hb3 b0
  replace b1 := keep_cell hb3 b1
  replace b2 := keep_cell hb3 b2
  replace b3 := keep_cell hb3 b3
  replace v0 := keep_cell hb3 v0
  replace v1 := keep_cell hb3 v1
  replace v2 := keep_cell hb3 v2
  replace v3 := keep_cell hb3 v3
  replace r0 := keep_cell hb3 r0
  replace r1 := keep_cell hb3 r1
  replace r2 := keep_cell hb3 r2
  replace r3 := keep_cell hb3 r3
  have HB3 := Lib.hid (HB2.out.trans (hb3.mono HB2.out.size))
  rw [hW3]
  clear hW3 hb3 hy0 hy1 hy2 hy3
  go_wp2_with fail
  refine (HCT.out _ HB3.out).mono ?_
  rintro e w4 ⟨b, rfl, hnb, hcb, hb4⟩
  have HNB := Lib.hid (show w.heap.size + 1 + 1 + 1 < b by have h : w.heap.size + 1 + 1 + 1 < W3.heap.size := World.block_lt_of_cell? _ _ r0; omega)
  clear hnb
  have HB4 := Lib.hid (HB3.out.trans (hb4.mono HB3.out.size))
  replace fr0 := keep_frozen hb4 (World.block_lt_of_cell? _ _ r0) fr0
  replace fr1 := keep_frozen hb4 (World.block_lt_of_cell? _ _ r1) fr1
  replace fr2 := keep_frozen hb4 (World.block_lt_of_cell? _ _ r2) fr2
  replace fr3 := keep_frozen hb4 (World.block_lt_of_cell? _ _ r3) fr3
  replace a0 := keep_cell hb4 a0
  replace a1 := keep_cell hb4 a1
  replace a2 := keep_cell hb4 a2
  replace a3 := keep_cell hb4 a3
  replace b0 := keep_cell hb4 b0
  replace b1 := keep_cell hb4 b1
  replace b2 := keep_cell hb4 b2
  replace b3 := keep_cell hb4 b3
  replace v0 := keep_cell hb4 v0
  replace v1 := keep_cell hb4 v1
  replace v2 := keep_cell hb4 v2
  replace v3 := keep_cell hb4 v3
  replace r0 := keep_cell hb4 r0
  replace r1 := keep_cell hb4 r1
  replace r2 := keep_cell hb4 r2
  replace r3 := keep_cell hb4 r3
  have hbl := World.block_lt_of_cell? _ _ hcb
  have HCB := Lib.hid hcb
  clear hcb hb4 q0 q1 q2 q3 q4 q5 q6 q7 q8 q9 q10
  go_wp2_with fail
  refine bodyPost_ret (v := .tuple #[.agg #[.int .i64 0, .int .i64 0, .int .u64 0, .string ⟨#[]⟩], .iface 147 (.pointer (some ⟨b, 0, none⟩))]) (by simp [results, Tryz.results27, go_sem, r0, r1, r2, r3]) rfl ⟨b, rfl, by have := HNB.out; omega, ?_, ?_⟩
  · have hne : b ≠ w.heap.size + 1 + 1 + 1 := by have := HNB.out; omega
    have hcb4 := HCB.out
    simp [go_sem, hcb4]
  · repeat' first | exact HB4.out | (refine Below.setCell ?_ (by simp; try omega) _)
end Go.Proofs.YtmgeefhacnadcaaGreatDoor
namespace Go.Proofs.YtmgeefhacnadcaaGreatDoor
open Go.RowKit

set_option maxRecDepth 100000 in
set_option maxHeartbeats 4000000 in
theorem wconv_errC (c d : Col) (v : Vl) (r : Nat) (w : World) (f g : Nat) (hB : ∀ W, Below w.heap.size w W → Calls Tryz.prog 32 #[.map (some r), .agg #[.string c.n, .int .i64 c.t, .int .i64 c.z, .bool c.u], .agg #[.string d.n, .int .i64 d.t, .int .i64 d.z, .bool d.u]] W fun e w' => e = .returned (.tuple #[.agg #[.string d.n, .int .i64 d.t, .int .i64 d.z, .bool d.u, .string c.n, .int .i64 c.t, .int .i64 c.z, .bool c.u, .func (.func f) #[] #[], .func (.func g) #[] #[], .bool true], .nilIface]) ∧ Below W.heap.size W w') (n : Int) (hC : ∀ W, Below w.heap.size w W → Calls Tryz.prog 59 #[.agg #[.string d.n, .int .i64 d.t, .int .i64 d.z, .bool d.u, .string c.n, .int .i64 c.t, .int .i64 c.z, .bool c.u, .func (.func f) #[] #[], .func (.func g) #[] #[], .bool true], .agg #[.int .i64 v.k, .int .i64 v.i, .int .u64 v.u, .string v.s]] W fun e w' => ∃ b, e = .returned (.tuple #[.agg #[.int .i64 0, .int .i64 0, .int .u64 0, .string ⟨#[]⟩], .iface 147 (.pointer (some ⟨b, 0, none⟩))]) ∧ W.heap.size ≤ b ∧ w'.cell? ⟨b, 1, none⟩ = some (.int .i64 n) ∧ Below W.heap.size W w') :
    Calls Tryz.prog 27 #[.map (some r), .agg #[.string c.n, .int .i64 c.t, .int .i64 c.z, .bool c.u], .agg #[.string d.n, .int .i64 d.t, .int .i64 d.z, .bool d.u], .agg #[.int .i64 v.k, .int .i64 v.i, .int .u64 v.u, .string v.s]] w fun e w' => ∃ b, e = .returned (.tuple #[.agg #[.int .i64 0, .int .i64 0, .int .u64 0, .string ⟨#[]⟩], .iface 147 (.pointer (some ⟨b, 0, none⟩))]) ∧ w.heap.size ≤ b ∧ w'.cell? ⟨b, 1, none⟩ = some (.int .i64 n) ∧ Below w.heap.size w w' := by
  have HBT := Lib.hid hB
  have HCT := Lib.hid hC
  clear hB hC
  go_enter Tryz.func27, Tryz.ntmps27
  go_upto_region 1 with fail
  obtain ⟨W1, hW1⟩ : ∃ W1, (((w.alloc (.cells #[.string c.n, .int .i64 c.t, .int .i64 c.z, .bool c.u] 24)).alloc (.cells #[.string d.n, .int .i64 d.t, .int .i64 d.z, .bool d.u] 24)).alloc (.cells #[.int .i64 v.k, .int .i64 v.i, .int .u64 v.u, .string v.s] 28)).alloc (.cells #[.int .i64 0, .int .i64 0, .int .u64 0, .string ⟨#[]⟩] 28) = W1 := ⟨_, rfl⟩
  have hb1 : Below w.heap.size w W1 := by rw [← hW1]; exact ((((Below.refl _ _).alloc (Nat.le_refl _) _).alloc (by simp) _).alloc (by simp; omega) _).alloc (by simp; omega) _
  have a0 : W1.cell? ⟨w.heap.size, 0, none⟩ = some (.string c.n) := by rw [← hW1]; simp [go_sem]
  have a1 : W1.cell? ⟨w.heap.size, 1, none⟩ = some (.int .i64 c.t) := by rw [← hW1]; simp [go_sem]
  have a2 : W1.cell? ⟨w.heap.size, 2, none⟩ = some (.int .i64 c.z) := by rw [← hW1]; simp [go_sem]
  have a3 : W1.cell? ⟨w.heap.size, 3, none⟩ = some (.bool c.u) := by rw [← hW1]; simp [go_sem]
  have b0 : W1.cell? ⟨w.heap.size + 1, 0, none⟩ = some (.string d.n) := by rw [← hW1]; simp [go_sem]
  have b1 : W1.cell? ⟨w.heap.size + 1, 1, none⟩ = some (.int .i64 d.t) := by rw [← hW1]; simp [go_sem]
  have b2 : W1.cell? ⟨w.heap.size + 1, 2, none⟩ = some (.int .i64 d.z) := by rw [← hW1]; simp [go_sem]
  have b3 : W1.cell? ⟨w.heap.size + 1, 3, none⟩ = some (.bool d.u) := by rw [← hW1]; simp [go_sem]
  have v0 : W1.cell? ⟨w.heap.size + 1 + 1, 0, none⟩ = some (.int .i64 v.k) := by rw [← hW1]; simp [go_sem]
  have v1 : W1.cell? ⟨w.heap.size + 1 + 1, 1, none⟩ = some (.int .i64 v.i) := by rw [← hW1]; simp [go_sem]
  have v2 : W1.cell? ⟨w.heap.size + 1 + 1, 2, none⟩ = some (.int .u64 v.u) := by rw [← hW1]; simp [go_sem]
  have v3 : W1.cell? ⟨w.heap.size + 1 + 1, 3, none⟩ = some (.string v.s) := by rw [← hW1]; simp [go_sem]
  have r0 : W1.cell? ⟨w.heap.size + 1 + 1 + 1, 0, none⟩ = some (.int .i64 0) := by rw [← hW1]; simp [go_sem]
  have r1 : W1.cell? ⟨w.heap.size + 1 + 1 + 1, 1, none⟩ = some (.int .i64 0) := by rw [← hW1]; simp [go_sem]
  have r2 : W1.cell? ⟨w.heap.size + 1 + 1 + 1, 2, none⟩ = some (.int .u64 0) := by rw [← hW1]; simp [go_sem]
  have r3 : W1.cell? ⟨w.heap.size + 1 + 1 + 1, 3, none⟩ = some (.string ⟨#[]⟩) := by rw [← hW1]; simp [go_sem]
  have fr0 : W1.frozen? ⟨w.heap.size + 1 + 1 + 1, 0, none⟩ = false := by rw [← hW1]; simp [go_sem]
  have fr1 : W1.frozen? ⟨w.heap.size + 1 + 1 + 1, 1, none⟩ = false := by rw [← hW1]; simp [go_sem]
  have fr2 : W1.frozen? ⟨w.heap.size + 1 + 1 + 1, 2, none⟩ = false := by rw [← hW1]; simp [go_sem]
  have fr3 : W1.frozen? ⟨w.heap.size + 1 + 1 + 1, 3, none⟩ = false := by rw [← hW1]; simp [go_sem]
  rw [hW1]
  have HB1 := Lib.hid hb1
  clear hW1 hb1
  go_wp2_with fail
  refine (HBT.out _ HB1.out).mono ?_
  rintro e w2 ⟨rfl, hb2⟩
  have HB2 := Lib.hid (HB1.out.trans (hb2.mono HB1.out.size))
  replace fr0 := keep_frozen hb2 (World.block_lt_of_cell? _ _ r0) fr0
  replace fr1 := keep_frozen hb2 (World.block_lt_of_cell? _ _ r1) fr1
  replace fr2 := keep_frozen hb2 (World.block_lt_of_cell? _ _ r2) fr2
  replace fr3 := keep_frozen hb2 (World.block_lt_of_cell? _ _ r3) fr3
  replace a0 := keep_cell hb2 a0
  replace a1 := keep_cell hb2 a1
  replace a2 := keep_cell hb2 a2
  replace a3 := keep_cell hb2 a3
  replace b0 := keep_cell hb2 b0
  replace b1 := keep_cell hb2 b1
  replace b2 := keep_cell hb2 b2
  replace b3 := keep_cell hb2 b3
  replace v0 := keep_cell hb2 v0
  replace v1 := keep_cell hb2 v1
  replace v2 := keep_cell hb2 v2
  replace v3 := keep_cell hb2 v3
  replace r0 := keep_cell hb2 r0
  replace r1 := keep_cell hb2 r1
  replace r2 := keep_cell hb2 r2
  replace r3 := keep_cell hb2 r3
  have hy3 : w.heap.size + 1 + 1 + 1 < w2.heap.size := World.block_lt_of_cell? _ _ r0
  have hy2 : w.heap.size + 1 + 1 < w2.heap.size := by omega
  have hy1 : w.heap.size + 1 < w2.heap.size := by omega
  have hy0 : w.heap.size < w2.heap.size := by omega
  clear hb2
  go_upto_region 2 with fail
  obtain ⟨W3, hW3⟩ : ∃ W3, w2.alloc (.cells #[.string d.n, .int .i64 d.t, .int .i64 d.z, .bool d.u, .string c.n, .int .i64 c.t, .int .i64 c.z, .bool c.u, .func (.func f) #[] #[], .func (.func g) #[] #[], .bool true] 80) = W3 := ⟨_, rfl⟩
  have hb3 : Below w2.heap.size w2 W3 := by rw [← hW3]; exact (Below.refl _ _).alloc (Nat.le_refl _) _
  have q0 : W3.cell? ⟨w2.heap.size, 0, none⟩ = some (.string d.n) := by rw [← hW3]; simp [go_sem]
  have q1 : W3.cell? ⟨w2.heap.size, 1, none⟩ = some (.int .i64 d.t) := by rw [← hW3]; simp [go_sem]
  have q2 : W3.cell? ⟨w2.heap.size, 2, none⟩ = some (.int .i64 d.z) := by rw [← hW3]; simp [go_sem]
  have q3 : W3.cell? ⟨w2.heap.size, 3, none⟩ = some (.bool d.u) := by rw [← hW3]; simp [go_sem]
  have q4 : W3.cell? ⟨w2.heap.size, 4, none⟩ = some (.string c.n) := by rw [← hW3]; simp [go_sem]
  have q5 : W3.cell? ⟨w2.heap.size, 5, none⟩ = some (.int .i64 c.t) := by rw [← hW3]; simp [go_sem]
  have q6 : W3.cell? ⟨w2.heap.size, 6, none⟩ = some (.int .i64 c.z) := by rw [← hW3]; simp [go_sem]
  have q7 : W3.cell? ⟨w2.heap.size, 7, none⟩ = some (.bool c.u) := by rw [← hW3]; simp [go_sem]
  have q8 : W3.cell? ⟨w2.heap.size, 8, none⟩ = some (.func (.func f) #[] #[]) := by rw [← hW3]; simp [go_sem]
  have q9 : W3.cell? ⟨w2.heap.size, 9, none⟩ = some (.func (.func g) #[] #[]) := by rw [← hW3]; simp [go_sem]
  have q10 : W3.cell? ⟨w2.heap.size, 10, none⟩ = some (.bool true) := by rw [← hW3]; simp [go_sem]
  replace fr0 := keep_frozen hb3 (World.block_lt_of_cell? _ _ r0) fr0
  replace fr1 := keep_frozen hb3 (World.block_lt_of_cell? _ _ r1) fr1
  replace fr2 := keep_frozen hb3 (World.block_lt_of_cell? _ _ r2) fr2
  replace fr3 := keep_frozen hb3 (World.block_lt_of_cell? _ _ r3) fr3
  replace a0 := keep_cell hb3 a0
  replace a1 := keep_cell hb3 a1
  replace a2 := keep_cell hb3 a2
  replace a3 := keep_cell hb3 a3
  replace b0 := keep_cell hb3 b0
  replace b1 := keep_cell hb3 b1
  replace b2 := keep_cell hb3 b2
  replace b3 := keep_cell hb3 b3
  replace v0 := keep_cell hb3 v0
  replace v1 := keep_cell hb3 v1
  replace v2 := keep_cell hb3 v2
  replace v3 := keep_cell hb3 v3
  replace r0 := keep_cell hb3 r0
  replace r1 := keep_cell hb3 r1
  replace r2 := keep_cell hb3 r2
  replace r3 := keep_cell hb3 r3
  have HB3 := Lib.hid (HB2.out.trans (hb3.mono HB2.out.size))
  rw [hW3]
  clear hW3 hb3 hy0 hy1 hy2 hy3
  go_wp2_with fail
  refine (HCT.out _ HB3.out).mono ?_
  rintro e w4 ⟨b, rfl, hnb, hcb, hb4⟩
  have HNB := Lib.hid (show w.heap.size + 1 + 1 + 1 < b by have h : w.heap.size + 1 + 1 + 1 < W3.heap.size := World.block_lt_of_cell? _ _ r0; omega)
  clear hnb
  have HB4 := Lib.hid (HB3.out.trans (hb4.mono HB3.out.size))
  replace fr0 := keep_frozen hb4 (World.block_lt_of_cell? _ _ r0) fr0
  replace fr1 := keep_frozen hb4 (World.block_lt_of_cell? _ _ r1) fr1
  replace fr2 := keep_frozen hb4 (World.block_lt_of_cell? _ _ r2) fr2
  replace fr3 := keep_frozen hb4 (World.block_lt_of_cell? _ _ r3) fr3
  replace a0 := keep_cell hb4 a0
  replace a1 := keep_cell hb4 a1
  replace a2 := keep_cell hb4 a2
  replace a3 := keep_cell hb4 a3
  replace b0 := keep_cell hb4 b0
  replace b1 := keep_cell hb4 b1
  replace b2 := keep_cell hb4 b2
  replace b3 := keep_cell hb4 b3
  replace v0 := keep_cell hb4 v0
  replace v1 := keep_cell hb4 v1
  replace v2 := keep_cell hb4 v2
  replace v3 := keep_cell hb4 v3
  replace r0 := keep_cell hb4 r0
  replace r1 := keep_cell hb4 r1
  replace r2 := keep_cell hb4 r2
  replace r3 := keep_cell hb4 r3
  have hbl := World.block_lt_of_cell? _ _ hcb
  have HCB := Lib.hid hcb
  clear hcb hb4 q0 q1 q2 q3 q4 q5 q6 q7 q8 q9 q10
  go_wp2_with fail
  refine bodyPost_ret (v := .tuple #[.agg #[.int .i64 0, .int .i64 0, .int .u64 0, .string ⟨#[]⟩], .iface 147 (.pointer (some ⟨b, 0, none⟩))]) (by simp [results, Tryz.results27, go_sem, r0, r1, r2, r3]) rfl ⟨b, rfl, by have := HNB.out; omega, ?_, ?_⟩
  · have hne : b ≠ w.heap.size + 1 + 1 + 1 := by have := HNB.out; omega
    have hcb4 := HCB.out
    simp [go_sem, hcb4]
  · repeat' first | exact HB4.out | (refine Below.setCell ?_ (by simp; try omega) _)
end Go.Proofs.YtmgeefhacnadcaaGreatDoor
namespace Go.Proofs.YtmgeefhacnadcaaGreatDoor
open Go.RowKit

set_option maxRecDepth 100000 in
set_option maxHeartbeats 4000000 in
theorem wconv_goodC (c d : Col) (v : Vl) (r : Nat) (w : World) (f g : Nat) (hB : ∀ W, Below w.heap.size w W → Calls Tryz.prog 32 #[.map (some r), .agg #[.string c.n, .int .i64 c.t, .int .i64 c.z, .bool c.u], .agg #[.string d.n, .int .i64 d.t, .int .i64 d.z, .bool d.u]] W fun e w' => e = .returned (.tuple #[.agg #[.string d.n, .int .i64 d.t, .int .i64 d.z, .bool d.u, .string c.n, .int .i64 c.t, .int .i64 c.z, .bool c.u, .func (.func f) #[] #[], .func (.func g) #[] #[], .bool true], .nilIface]) ∧ Below W.heap.size W w') (x : Vl) (hC : ∀ W, Below w.heap.size w W → Calls Tryz.prog 59 #[.agg #[.string d.n, .int .i64 d.t, .int .i64 d.z, .bool d.u, .string c.n, .int .i64 c.t, .int .i64 c.z, .bool c.u, .func (.func f) #[] #[], .func (.func g) #[] #[], .bool true], .agg #[.int .i64 v.k, .int .i64 v.i, .int .u64 v.u, .string v.s]] W fun e w' => e = .returned (.tuple #[.agg #[.int .i64 x.k, .int .i64 x.i, .int .u64 x.u, .string x.s], .nilIface]) ∧ Below W.heap.size W w') :
    Calls Tryz.prog 27 #[.map (some r), .agg #[.string c.n, .int .i64 c.t, .int .i64 c.z, .bool c.u], .agg #[.string d.n, .int .i64 d.t, .int .i64 d.z, .bool d.u], .agg #[.int .i64 v.k, .int .i64 v.i, .int .u64 v.u, .string v.s]] w fun e w' => e = .returned (.tuple #[.agg #[.int .i64 x.k, .int .i64 x.i, .int .u64 x.u, .string x.s], .nilIface]) ∧ Below w.heap.size w w' := by
  have HBT := Lib.hid hB
  have HCT := Lib.hid hC
  clear hB hC
  go_enter Tryz.func27, Tryz.ntmps27
  go_upto_region 1 with fail
  obtain ⟨W1, hW1⟩ : ∃ W1, (((w.alloc (.cells #[.string c.n, .int .i64 c.t, .int .i64 c.z, .bool c.u] 24)).alloc (.cells #[.string d.n, .int .i64 d.t, .int .i64 d.z, .bool d.u] 24)).alloc (.cells #[.int .i64 v.k, .int .i64 v.i, .int .u64 v.u, .string v.s] 28)).alloc (.cells #[.int .i64 0, .int .i64 0, .int .u64 0, .string ⟨#[]⟩] 28) = W1 := ⟨_, rfl⟩
  have hb1 : Below w.heap.size w W1 := by rw [← hW1]; exact ((((Below.refl _ _).alloc (Nat.le_refl _) _).alloc (by simp) _).alloc (by simp; omega) _).alloc (by simp; omega) _
  have a0 : W1.cell? ⟨w.heap.size, 0, none⟩ = some (.string c.n) := by rw [← hW1]; simp [go_sem]
  have a1 : W1.cell? ⟨w.heap.size, 1, none⟩ = some (.int .i64 c.t) := by rw [← hW1]; simp [go_sem]
  have a2 : W1.cell? ⟨w.heap.size, 2, none⟩ = some (.int .i64 c.z) := by rw [← hW1]; simp [go_sem]
  have a3 : W1.cell? ⟨w.heap.size, 3, none⟩ = some (.bool c.u) := by rw [← hW1]; simp [go_sem]
  have b0 : W1.cell? ⟨w.heap.size + 1, 0, none⟩ = some (.string d.n) := by rw [← hW1]; simp [go_sem]
  have b1 : W1.cell? ⟨w.heap.size + 1, 1, none⟩ = some (.int .i64 d.t) := by rw [← hW1]; simp [go_sem]
  have b2 : W1.cell? ⟨w.heap.size + 1, 2, none⟩ = some (.int .i64 d.z) := by rw [← hW1]; simp [go_sem]
  have b3 : W1.cell? ⟨w.heap.size + 1, 3, none⟩ = some (.bool d.u) := by rw [← hW1]; simp [go_sem]
  have v0 : W1.cell? ⟨w.heap.size + 1 + 1, 0, none⟩ = some (.int .i64 v.k) := by rw [← hW1]; simp [go_sem]
  have v1 : W1.cell? ⟨w.heap.size + 1 + 1, 1, none⟩ = some (.int .i64 v.i) := by rw [← hW1]; simp [go_sem]
  have v2 : W1.cell? ⟨w.heap.size + 1 + 1, 2, none⟩ = some (.int .u64 v.u) := by rw [← hW1]; simp [go_sem]
  have v3 : W1.cell? ⟨w.heap.size + 1 + 1, 3, none⟩ = some (.string v.s) := by rw [← hW1]; simp [go_sem]
  have r0 : W1.cell? ⟨w.heap.size + 1 + 1 + 1, 0, none⟩ = some (.int .i64 0) := by rw [← hW1]; simp [go_sem]
  have r1 : W1.cell? ⟨w.heap.size + 1 + 1 + 1, 1, none⟩ = some (.int .i64 0) := by rw [← hW1]; simp [go_sem]
  have r2 : W1.cell? ⟨w.heap.size + 1 + 1 + 1, 2, none⟩ = some (.int .u64 0) := by rw [← hW1]; simp [go_sem]
  have r3 : W1.cell? ⟨w.heap.size + 1 + 1 + 1, 3, none⟩ = some (.string ⟨#[]⟩) := by rw [← hW1]; simp [go_sem]
  have fr0 : W1.frozen? ⟨w.heap.size + 1 + 1 + 1, 0, none⟩ = false := by rw [← hW1]; simp [go_sem]
  have fr1 : W1.frozen? ⟨w.heap.size + 1 + 1 + 1, 1, none⟩ = false := by rw [← hW1]; simp [go_sem]
  have fr2 : W1.frozen? ⟨w.heap.size + 1 + 1 + 1, 2, none⟩ = false := by rw [← hW1]; simp [go_sem]
  have fr3 : W1.frozen? ⟨w.heap.size + 1 + 1 + 1, 3, none⟩ = false := by rw [← hW1]; simp [go_sem]
  rw [hW1]
  have HB1 := Lib.hid hb1
  clear hW1 hb1
  go_wp2_with fail
  refine (HBT.out _ HB1.out).mono ?_
  rintro e w2 ⟨rfl, hb2⟩
  have HB2 := Lib.hid (HB1.out.trans (hb2.mono HB1.out.size))
  replace fr0 := keep_frozen hb2 (World.block_lt_of_cell? _ _ r0) fr0
  replace fr1 := keep_frozen hb2 (World.block_lt_of_cell? _ _ r1) fr1
  replace fr2 := keep_frozen hb2 (World.block_lt_of_cell? _ _ r2) fr2
  replace fr3 := keep_frozen hb2 (World.block_lt_of_cell? _ _ r3) fr3
  replace a0 := keep_cell hb2 a0
  replace a1 := keep_cell hb2 a1
  replace a2 := keep_cell hb2 a2
  replace a3 := keep_cell hb2 a3
  replace b0 := keep_cell hb2 b0
  replace b1 := keep_cell hb2 b1
  replace b2 := keep_cell hb2 b2
  replace b3 := keep_cell hb2 b3
  replace v0 := keep_cell hb2 v0
  replace v1 := keep_cell hb2 v1
  replace v2 := keep_cell hb2 v2
  replace v3 := keep_cell hb2 v3
  replace r0 := keep_cell hb2 r0
  replace r1 := keep_cell hb2 r1
  replace r2 := keep_cell hb2 r2
  replace r3 := keep_cell hb2 r3
  have hy3 : w.heap.size + 1 + 1 + 1 < w2.heap.size := World.block_lt_of_cell? _ _ r0
  have hy2 : w.heap.size + 1 + 1 < w2.heap.size := by omega
  have hy1 : w.heap.size + 1 < w2.heap.size := by omega
  have hy0 : w.heap.size < w2.heap.size := by omega
  clear hb2
  go_upto_region 2 with fail
  obtain ⟨W3, hW3⟩ : ∃ W3, w2.alloc (.cells #[.string d.n, .int .i64 d.t, .int .i64 d.z, .bool d.u, .string c.n, .int .i64 c.t, .int .i64 c.z, .bool c.u, .func (.func f) #[] #[], .func (.func g) #[] #[], .bool true] 80) = W3 := ⟨_, rfl⟩
  have hb3 : Below w2.heap.size w2 W3 := by rw [← hW3]; exact (Below.refl _ _).alloc (Nat.le_refl _) _
  have q0 : W3.cell? ⟨w2.heap.size, 0, none⟩ = some (.string d.n) := by rw [← hW3]; simp [go_sem]
  have q1 : W3.cell? ⟨w2.heap.size, 1, none⟩ = some (.int .i64 d.t) := by rw [← hW3]; simp [go_sem]
  have q2 : W3.cell? ⟨w2.heap.size, 2, none⟩ = some (.int .i64 d.z) := by rw [← hW3]; simp [go_sem]
  have q3 : W3.cell? ⟨w2.heap.size, 3, none⟩ = some (.bool d.u) := by rw [← hW3]; simp [go_sem]
  have q4 : W3.cell? ⟨w2.heap.size, 4, none⟩ = some (.string c.n) := by rw [← hW3]; simp [go_sem]
  have q5 : W3.cell? ⟨w2.heap.size, 5, none⟩ = some (.int .i64 c.t) := by rw [← hW3]; simp [go_sem]
  have q6 : W3.cell? ⟨w2.heap.size, 6, none⟩ = some (.int .i64 c.z) := by rw [← hW3]; simp [go_sem]
  have q7 : W3.cell? ⟨w2.heap.size, 7, none⟩ = some (.bool c.u) := by rw [← hW3]; simp [go_sem]
  have q8 : W3.cell? ⟨w2.heap.size, 8, none⟩ = some (.func (.func f) #[] #[]) := by rw [← hW3]; simp [go_sem]
  have q9 : W3.cell? ⟨w2.heap.size, 9, none⟩ = some (.func (.func g) #[] #[]) := by rw [← hW3]; simp [go_sem]
  have q10 : W3.cell? ⟨w2.heap.size, 10, none⟩ = some (.bool true) := by rw [← hW3]; simp [go_sem]
  replace fr0 := keep_frozen hb3 (World.block_lt_of_cell? _ _ r0) fr0
  replace fr1 := keep_frozen hb3 (World.block_lt_of_cell? _ _ r1) fr1
  replace fr2 := keep_frozen hb3 (World.block_lt_of_cell? _ _ r2) fr2
  replace fr3 := keep_frozen hb3 (World.block_lt_of_cell? _ _ r3) fr3
  replace a0 := keep_cell hb3 a0
  replace a1 := keep_cell hb3 a1
  replace a2 := keep_cell hb3 a2
  replace a3 := keep_cell hb3 a3
  replace b0 := keep_cell hb3 b0
  replace b1 := keep_cell hb3 b1
  replace b2 := keep_cell hb3 b2
  replace b3 := keep_cell hb3 b3
  replace v0 := keep_cell hb3 v0
  replace v1 := keep_cell hb3 v1
  replace v2 := keep_cell hb3 v2
  replace v3 := keep_cell hb3 v3
  replace r0 := keep_cell hb3 r0
  replace r1 := keep_cell hb3 r1
  replace r2 := keep_cell hb3 r2
  replace r3 := keep_cell hb3 r3
  have HB3 := Lib.hid (HB2.out.trans (hb3.mono HB2.out.size))
  rw [hW3]
  clear hW3 hb3 hy0 hy1 hy2 hy3
  go_wp2_with fail
  refine (HCT.out _ HB3.out).mono ?_
  rintro e w4 ⟨rfl, hb4⟩
  have HB4 := Lib.hid (HB3.out.trans (hb4.mono HB3.out.size))
  replace fr0 := keep_frozen hb4 (World.block_lt_of_cell? _ _ r0) fr0
  replace fr1 := keep_frozen hb4 (World.block_lt_of_cell? _ _ r1) fr1
  replace fr2 := keep_frozen hb4 (World.block_lt_of_cell? _ _ r2) fr2
  replace fr3 := keep_frozen hb4 (World.block_lt_of_cell? _ _ r3) fr3
  replace a0 := keep_cell hb4 a0
  replace a1 := keep_cell hb4 a1
  replace a2 := keep_cell hb4 a2
  replace a3 := keep_cell hb4 a3
  replace b0 := keep_cell hb4 b0
  replace b1 := keep_cell hb4 b1
  replace b2 := keep_cell hb4 b2
  replace b3 := keep_cell hb4 b3
  replace v0 := keep_cell hb4 v0
  replace v1 := keep_cell hb4 v1
  replace v2 := keep_cell hb4 v2
  replace v3 := keep_cell hb4 v3
  replace r0 := keep_cell hb4 r0
  replace r1 := keep_cell hb4 r1
  replace r2 := keep_cell hb4 r2
  replace r3 := keep_cell hb4 r3
  clear hb4 q0 q1 q2 q3 q4 q5 q6 q7 q8 q9 q10
  go_wp2_with fail
  refine bodyPost_ret (v := .tuple #[.agg #[.int .i64 x.k, .int .i64 x.i, .int .u64 x.u, .string x.s], .nilIface]) (by simp [results, Tryz.results27, go_sem, r0, r1, r2, r3]) rfl ⟨rfl, ?_⟩
  repeat' first | exact HB4.out | (refine Below.setCell ?_ (by simp; try omega) _)
end Go.Proofs.YtmgeefhacnadcaaGreatDoor
