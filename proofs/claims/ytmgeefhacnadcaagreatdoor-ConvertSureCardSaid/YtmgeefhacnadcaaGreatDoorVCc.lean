/-
  (convert.conversion).convert, end by end.
-/
import Derived.Test.YtmgeefhacnadcaaGreatDoorVBet0
namespace Go.Proofs.YtmgeefhacnadcaaGreatDoor
open Go.RowKit

set_option maxRecDepth 100000 in
set_option maxHeartbeats 4000000 in
theorem cconv_unfitA (c d : Col) (v : Vl) (w : World) (hE : Env w) (n1 : c.n.size ≤ 9223372036854775807) (m : Int) (hm : fitsN c v = m) (h0 : m ≠ 0) :
    Calls Tryz.prog 59 #[.agg #[.string d.n, .int .i64 d.t, .int .i64 d.z, .bool d.u, .string c.n, .int .i64 c.t, .int .i64 c.z, .bool c.u, .nilFunc, .nilFunc, .bool false], .agg #[.int .i64 v.k, .int .i64 v.i, .int .u64 v.u, .string v.s]] w fun e w' => ∃ b, e = .returned (.tuple #[.agg #[.int .i64 0, .int .i64 0, .int .u64 0, .string ⟨#[]⟩], .iface 147 (.pointer (some ⟨b, 0, none⟩))]) ∧ w.heap.size ≤ b ∧ w'.cell? ⟨b, 1, none⟩ = some (.int .i64 m) ∧ Below w.heap.size w w' := by
  have HF : Hid (∀ (x : Col) (y : Vl) W, x.n.size ≤ 9223372036854775807 → Below w.heap.size w W → Calls Tryz.prog 21 #[.agg #[.string x.n, .int .i64 x.t, .int .i64 x.z, .bool x.u], .agg #[.int .i64 y.k, .int .i64 y.i, .int .u64 y.u, .string y.s]] W fun e w' => e = .returned (.int .i64 (fitsN x y)) ∧ Below W.heap.size W w') := Lib.hid (fun x y W h hb => Fits_any x y W (hE.keep hb).et h)
  clear hE
  have HM1 := Lib.hid hm
  have hmb : (m != 0) = true := by simpa using h0
  clear hm h0
  go_enter Tryz.func59, Tryz.ntmps59
  go_upto_region 1 with fail
  obtain ⟨W1, hW1⟩ : ∃ W1, ((w.alloc (.cells #[.string d.n, .int .i64 d.t, .int .i64 d.z, .bool d.u, .string c.n, .int .i64 c.t, .int .i64 c.z, .bool c.u, .nilFunc, .nilFunc, .bool false] 80)).alloc (.cells #[.int .i64 v.k, .int .i64 v.i, .int .u64 v.u, .string v.s] 28)).alloc (.cells #[.int .i64 0, .int .i64 0, .int .u64 0, .string ⟨#[]⟩] 28) = W1 := ⟨_, rfl⟩
  have hb1 : Below w.heap.size w W1 := by rw [← hW1]; exact (((Below.refl _ _).alloc (Nat.le_refl _) _).alloc (by simp) _).alloc (by simp; omega) _
  have a0 : W1.cell? ⟨w.heap.size, 0, none⟩ = some (.string d.n) := by rw [← hW1]; simp [go_sem]
  have a1 : W1.cell? ⟨w.heap.size, 1, none⟩ = some (.int .i64 d.t) := by rw [← hW1]; simp [go_sem]
  have a2 : W1.cell? ⟨w.heap.size, 2, none⟩ = some (.int .i64 d.z) := by rw [← hW1]; simp [go_sem]
  have a3 : W1.cell? ⟨w.heap.size, 3, none⟩ = some (.bool d.u) := by rw [← hW1]; simp [go_sem]
  have a4 : W1.cell? ⟨w.heap.size, 4, none⟩ = some (.string c.n) := by rw [← hW1]; simp [go_sem]
  have a5 : W1.cell? ⟨w.heap.size, 5, none⟩ = some (.int .i64 c.t) := by rw [← hW1]; simp [go_sem]
  have a6 : W1.cell? ⟨w.heap.size, 6, none⟩ = some (.int .i64 c.z) := by rw [← hW1]; simp [go_sem]
  have a7 : W1.cell? ⟨w.heap.size, 7, none⟩ = some (.bool c.u) := by rw [← hW1]; simp [go_sem]
  have a8 : W1.cell? ⟨w.heap.size, 8, none⟩ = some (.nilFunc) := by rw [← hW1]; simp [go_sem]
  have a9 : W1.cell? ⟨w.heap.size, 9, none⟩ = some (.nilFunc) := by rw [← hW1]; simp [go_sem]
  have a10 : W1.cell? ⟨w.heap.size, 10, none⟩ = some (.bool false) := by rw [← hW1]; simp [go_sem]
  have b0 : W1.cell? ⟨w.heap.size + 1, 0, none⟩ = some (.int .i64 v.k) := by rw [← hW1]; simp [go_sem]
  have b1 : W1.cell? ⟨w.heap.size + 1, 1, none⟩ = some (.int .i64 v.i) := by rw [← hW1]; simp [go_sem]
  have b2 : W1.cell? ⟨w.heap.size + 1, 2, none⟩ = some (.int .u64 v.u) := by rw [← hW1]; simp [go_sem]
  have b3 : W1.cell? ⟨w.heap.size + 1, 3, none⟩ = some (.string v.s) := by rw [← hW1]; simp [go_sem]
  have r0 : W1.cell? ⟨w.heap.size + 1 + 1, 0, none⟩ = some (.int .i64 0) := by rw [← hW1]; simp [go_sem]
  have r1 : W1.cell? ⟨w.heap.size + 1 + 1, 1, none⟩ = some (.int .i64 0) := by rw [← hW1]; simp [go_sem]
  have r2 : W1.cell? ⟨w.heap.size + 1 + 1, 2, none⟩ = some (.int .u64 0) := by rw [← hW1]; simp [go_sem]
  have r3 : W1.cell? ⟨w.heap.size + 1 + 1, 3, none⟩ = some (.string ⟨#[]⟩) := by rw [← hW1]; simp [go_sem]
  have fr0 : W1.frozen? ⟨w.heap.size + 1 + 1, 0, none⟩ = false := by rw [← hW1]; simp [go_sem]
  have fr1 : W1.frozen? ⟨w.heap.size + 1 + 1, 1, none⟩ = false := by rw [← hW1]; simp [go_sem]
  have fr2 : W1.frozen? ⟨w.heap.size + 1 + 1, 2, none⟩ = false := by rw [← hW1]; simp [go_sem]
  have fr3 : W1.frozen? ⟨w.heap.size + 1 + 1, 3, none⟩ = false := by rw [← hW1]; simp [go_sem]
  rw [hW1]
  have HB1 := Lib.hid hb1
  clear hW1 hb1
  go_wp2_with (go_at_call 71; refine (Of_any _ _ _).mono ?_; rintro e w' ⟨rfl, rfl⟩)
  refine (HF.out c v _ n1 HB1.out).mono ?_
  rintro e w2 ⟨rfl, hb2⟩
  rw [HM1.out]
  have HB2 := Lib.hid (HB1.out.trans (hb2.mono HB1.out.size))
  replace fr0 := keep_frozen hb2 (World.block_lt_of_cell? _ _ r0) fr0
  replace fr1 := keep_frozen hb2 (World.block_lt_of_cell? _ _ r1) fr1
  replace fr2 := keep_frozen hb2 (World.block_lt_of_cell? _ _ r2) fr2
  replace fr3 := keep_frozen hb2 (World.block_lt_of_cell? _ _ r3) fr3
  replace a0 := keep_cell hb2 a0
  replace a1 := keep_cell hb2 a1
  replace a2 := keep_cell hb2 a2
  replace a3 := keep_cell hb2 a3
  replace a4 := keep_cell hb2 a4
  replace a5 := keep_cell hb2 a5
  replace a6 := keep_cell hb2 a6
  replace a7 := keep_cell hb2 a7
  replace a8 := keep_cell hb2 a8
  replace a9 := keep_cell hb2 a9
  replace a10 := keep_cell hb2 a10
  replace b0 := keep_cell hb2 b0
  replace b1 := keep_cell hb2 b1
  replace b2 := keep_cell hb2 b2
  replace b3 := keep_cell hb2 b3
  replace r0 := keep_cell hb2 r0
  replace r1 := keep_cell hb2 r1
  replace r2 := keep_cell hb2 r2
  replace r3 := keep_cell hb2 r3
  have hy2 : w.heap.size + 1 + 1 < w2.heap.size := World.block_lt_of_cell? _ _ r0
  have hy1 : w.heap.size + 1 < w2.heap.size := by omega
  have hy0 : w.heap.size < w2.heap.size := by omega
  clear hb2
  have hyz := hy2
  go_wp2_with (go_at_call 71; refine (Of_any _ _ _).mono ?_; rintro e w' ⟨rfl, rfl⟩)
  refine bodyPost_ret (v := .tuple #[.agg #[.int .i64 0, .int .i64 0, .int .u64 0, .string ⟨#[]⟩], .iface 147 (.pointer (some ⟨w2.heap.size, 0, none⟩))]) (by simp [results, Tryz.results59, go_sem, r0, r1, r2, r3, hyz]) rfl ⟨w2.heap.size, rfl, by omega, ?_, ?_⟩
  · simp [go_sem]
  · repeat' first | exact HB2.out | (refine Below.setCell ?_ (by simp; try omega) _) | (refine Below.alloc ?_ (by have := HB2.out.size; simp; try omega) _)
end Go.Proofs.YtmgeefhacnadcaaGreatDoor
namespace Go.Proofs.YtmgeefhacnadcaaGreatDoor
open Go.RowKit

set_option maxRecDepth 100000 in
set_option maxHeartbeats 4000000 in
theorem cconv_unfitB (c d : Col) (v : Vl) (w : World) (hE : Env w) (n1 : c.n.size ≤ 9223372036854775807) (f g : Nat) (m : Int) (hm : fitsN c v = m) (h0 : m ≠ 0) :
    Calls Tryz.prog 59 #[.agg #[.string d.n, .int .i64 d.t, .int .i64 d.z, .bool d.u, .string c.n, .int .i64 c.t, .int .i64 c.z, .bool c.u, .func (.func f) #[] #[], .func (.func g) #[] #[], .bool true], .agg #[.int .i64 v.k, .int .i64 v.i, .int .u64 v.u, .string v.s]] w fun e w' => ∃ b, e = .returned (.tuple #[.agg #[.int .i64 0, .int .i64 0, .int .u64 0, .string ⟨#[]⟩], .iface 147 (.pointer (some ⟨b, 0, none⟩))]) ∧ w.heap.size ≤ b ∧ w'.cell? ⟨b, 1, none⟩ = some (.int .i64 m) ∧ Below w.heap.size w w' := by
  have HF : Hid (∀ (x : Col) (y : Vl) W, x.n.size ≤ 9223372036854775807 → Below w.heap.size w W → Calls Tryz.prog 21 #[.agg #[.string x.n, .int .i64 x.t, .int .i64 x.z, .bool x.u], .agg #[.int .i64 y.k, .int .i64 y.i, .int .u64 y.u, .string y.s]] W fun e w' => e = .returned (.int .i64 (fitsN x y)) ∧ Below W.heap.size W w') := Lib.hid (fun x y W h hb => Fits_any x y W (hE.keep hb).et h)
  clear hE
  have HM1 := Lib.hid hm
  have hmb : (m != 0) = true := by simpa using h0
  clear hm h0
  go_enter Tryz.func59, Tryz.ntmps59
  go_upto_region 1 with fail
  obtain ⟨W1, hW1⟩ : ∃ W1, ((w.alloc (.cells #[.string d.n, .int .i64 d.t, .int .i64 d.z, .bool d.u, .string c.n, .int .i64 c.t, .int .i64 c.z, .bool c.u, .func (.func f) #[] #[], .func (.func g) #[] #[], .bool true] 80)).alloc (.cells #[.int .i64 v.k, .int .i64 v.i, .int .u64 v.u, .string v.s] 28)).alloc (.cells #[.int .i64 0, .int .i64 0, .int .u64 0, .string ⟨#[]⟩] 28) = W1 := ⟨_, rfl⟩
  have hb1 : Below w.heap.size w W1 := by rw [← hW1]; exact (((Below.refl _ _).alloc (Nat.le_refl _) _).alloc (by simp) _).alloc (by simp; omega) _
  have a0 : W1.cell? ⟨w.heap.size, 0, none⟩ = some (.string d.n) := by rw [← hW1]; simp [go_sem]
  have a1 : W1.cell? ⟨w.heap.size, 1, none⟩ = some (.int .i64 d.t) := by rw [← hW1]; simp [go_sem]
  have a2 : W1.cell? ⟨w.heap.size, 2, none⟩ = some (.int .i64 d.z) := by rw [← hW1]; simp [go_sem]
  have a3 : W1.cell? ⟨w.heap.size, 3, none⟩ = some (.bool d.u) := by rw [← hW1]; simp [go_sem]
  have a4 : W1.cell? ⟨w.heap.size, 4, none⟩ = some (.string c.n) := by rw [← hW1]; simp [go_sem]
  have a5 : W1.cell? ⟨w.heap.size, 5, none⟩ = some (.int .i64 c.t) := by rw [← hW1]; simp [go_sem]
  have a6 : W1.cell? ⟨w.heap.size, 6, none⟩ = some (.int .i64 c.z) := by rw [← hW1]; simp [go_sem]
  have a7 : W1.cell? ⟨w.heap.size, 7, none⟩ = some (.bool c.u) := by rw [← hW1]; simp [go_sem]
  have a8 : W1.cell? ⟨w.heap.size, 8, none⟩ = some (.func (.func f) #[] #[]) := by rw [← hW1]; simp [go_sem]
  have a9 : W1.cell? ⟨w.heap.size, 9, none⟩ = some (.func (.func g) #[] #[]) := by rw [← hW1]; simp [go_sem]
  have a10 : W1.cell? ⟨w.heap.size, 10, none⟩ = some (.bool true) := by rw [← hW1]; simp [go_sem]
  have b0 : W1.cell? ⟨w.heap.size + 1, 0, none⟩ = some (.int .i64 v.k) := by rw [← hW1]; simp [go_sem]
  have b1 : W1.cell? ⟨w.heap.size + 1, 1, none⟩ = some (.int .i64 v.i) := by rw [← hW1]; simp [go_sem]
  have b2 : W1.cell? ⟨w.heap.size + 1, 2, none⟩ = some (.int .u64 v.u) := by rw [← hW1]; simp [go_sem]
  have b3 : W1.cell? ⟨w.heap.size + 1, 3, none⟩ = some (.string v.s) := by rw [← hW1]; simp [go_sem]
  have r0 : W1.cell? ⟨w.heap.size + 1 + 1, 0, none⟩ = some (.int .i64 0) := by rw [← hW1]; simp [go_sem]
  have r1 : W1.cell? ⟨w.heap.size + 1 + 1, 1, none⟩ = some (.int .i64 0) := by rw [← hW1]; simp [go_sem]
  have r2 : W1.cell? ⟨w.heap.size + 1 + 1, 2, none⟩ = some (.int .u64 0) := by rw [← hW1]; simp [go_sem]
  have r3 : W1.cell? ⟨w.heap.size + 1 + 1, 3, none⟩ = some (.string ⟨#[]⟩) := by rw [← hW1]; simp [go_sem]
  have fr0 : W1.frozen? ⟨w.heap.size + 1 + 1, 0, none⟩ = false := by rw [← hW1]; simp [go_sem]
  have fr1 : W1.frozen? ⟨w.heap.size + 1 + 1, 1, none⟩ = false := by rw [← hW1]; simp [go_sem]
  have fr2 : W1.frozen? ⟨w.heap.size + 1 + 1, 2, none⟩ = false := by rw [← hW1]; simp [go_sem]
  have fr3 : W1.frozen? ⟨w.heap.size + 1 + 1, 3, none⟩ = false := by rw [← hW1]; simp [go_sem]
  rw [hW1]
  have HB1 := Lib.hid hb1
  clear hW1 hb1
  go_wp2_with (go_at_call 71; refine (Of_any _ _ _).mono ?_; rintro e w' ⟨rfl, rfl⟩)
  refine (HF.out c v _ n1 HB1.out).mono ?_
  rintro e w2 ⟨rfl, hb2⟩
  rw [HM1.out]
  have HB2 := Lib.hid (HB1.out.trans (hb2.mono HB1.out.size))
  replace fr0 := keep_frozen hb2 (World.block_lt_of_cell? _ _ r0) fr0
  replace fr1 := keep_frozen hb2 (World.block_lt_of_cell? _ _ r1) fr1
  replace fr2 := keep_frozen hb2 (World.block_lt_of_cell? _ _ r2) fr2
  replace fr3 := keep_frozen hb2 (World.block_lt_of_cell? _ _ r3) fr3
  replace a0 := keep_cell hb2 a0
  replace a1 := keep_cell hb2 a1
  replace a2 := keep_cell hb2 a2
  replace a3 := keep_cell hb2 a3
  replace a4 := keep_cell hb2 a4
  replace a5 := keep_cell hb2 a5
  replace a6 := keep_cell hb2 a6
  replace a7 := keep_cell hb2 a7
  replace a8 := keep_cell hb2 a8
  replace a9 := keep_cell hb2 a9
  replace a10 := keep_cell hb2 a10
  replace b0 := keep_cell hb2 b0
  replace b1 := keep_cell hb2 b1
  replace b2 := keep_cell hb2 b2
  replace b3 := keep_cell hb2 b3
  replace r0 := keep_cell hb2 r0
  replace r1 := keep_cell hb2 r1
  replace r2 := keep_cell hb2 r2
  replace r3 := keep_cell hb2 r3
  have hy2 : w.heap.size + 1 + 1 < w2.heap.size := World.block_lt_of_cell? _ _ r0
  have hy1 : w.heap.size + 1 < w2.heap.size := by omega
  have hy0 : w.heap.size < w2.heap.size := by omega
  clear hb2
  have hyz := hy2
  go_wp2_with (go_at_call 71; refine (Of_any _ _ _).mono ?_; rintro e w' ⟨rfl, rfl⟩)
  refine bodyPost_ret (v := .tuple #[.agg #[.int .i64 0, .int .i64 0, .int .u64 0, .string ⟨#[]⟩], .iface 147 (.pointer (some ⟨w2.heap.size, 0, none⟩))]) (by simp [results, Tryz.results59, go_sem, r0, r1, r2, r3, hyz]) rfl ⟨w2.heap.size, rfl, by omega, ?_, ?_⟩
  · simp [go_sem]
  · repeat' first | exact HB2.out | (refine Below.setCell ?_ (by simp; try omega) _) | (refine Below.alloc ?_ (by have := HB2.out.size; simp; try omega) _)
end Go.Proofs.YtmgeefhacnadcaaGreatDoor
namespace Go.Proofs.YtmgeefhacnadcaaGreatDoor
open Go.RowKit

set_option maxRecDepth 100000 in
set_option maxHeartbeats 4000000 in
theorem cconv_noway (c d : Col) (v : Vl) (w : World) (hE : Env w) (n1 : c.n.size ≤ 9223372036854775807) (hm : fitsN c v = 0) :
    Calls Tryz.prog 59 #[.agg #[.string d.n, .int .i64 d.t, .int .i64 d.z, .bool d.u, .string c.n, .int .i64 c.t, .int .i64 c.z, .bool c.u, .nilFunc, .nilFunc, .bool false], .agg #[.int .i64 v.k, .int .i64 v.i, .int .u64 v.u, .string v.s]] w fun e w' => ∃ b, e = .returned (.tuple #[.agg #[.int .i64 0, .int .i64 0, .int .u64 0, .string ⟨#[]⟩], .iface 147 (.pointer (some ⟨b, 0, none⟩))]) ∧ w.heap.size ≤ b ∧ w'.cell? ⟨b, 1, none⟩ = some (.int .i64 160) ∧ Below w.heap.size w w' := by
  have HF : Hid (∀ (x : Col) (y : Vl) W, x.n.size ≤ 9223372036854775807 → Below w.heap.size w W → Calls Tryz.prog 21 #[.agg #[.string x.n, .int .i64 x.t, .int .i64 x.z, .bool x.u], .agg #[.int .i64 y.k, .int .i64 y.i, .int .u64 y.u, .string y.s]] W fun e w' => e = .returned (.int .i64 (fitsN x y)) ∧ Below W.heap.size W w') := Lib.hid (fun x y W h hb => Fits_any x y W (hE.keep hb).et h)
  clear hE
  have HM1 := Lib.hid hm
  clear hm
  go_enter Tryz.func59, Tryz.ntmps59
  go_upto_region 1 with fail
  obtain ⟨W1, hW1⟩ : ∃ W1, ((w.alloc (.cells #[.string d.n, .int .i64 d.t, .int .i64 d.z, .bool d.u, .string c.n, .int .i64 c.t, .int .i64 c.z, .bool c.u, .nilFunc, .nilFunc, .bool false] 80)).alloc (.cells #[.int .i64 v.k, .int .i64 v.i, .int .u64 v.u, .string v.s] 28)).alloc (.cells #[.int .i64 0, .int .i64 0, .int .u64 0, .string ⟨#[]⟩] 28) = W1 := ⟨_, rfl⟩
  have hb1 : Below w.heap.size w W1 := by rw [← hW1]; exact (((Below.refl _ _).alloc (Nat.le_refl _) _).alloc (by simp) _).alloc (by simp; omega) _
  have a0 : W1.cell? ⟨w.heap.size, 0, none⟩ = some (.string d.n) := by rw [← hW1]; simp [go_sem]
  have a1 : W1.cell? ⟨w.heap.size, 1, none⟩ = some (.int .i64 d.t) := by rw [← hW1]; simp [go_sem]
  have a2 : W1.cell? ⟨w.heap.size, 2, none⟩ = some (.int .i64 d.z) := by rw [← hW1]; simp [go_sem]
  have a3 : W1.cell? ⟨w.heap.size, 3, none⟩ = some (.bool d.u) := by rw [← hW1]; simp [go_sem]
  have a4 : W1.cell? ⟨w.heap.size, 4, none⟩ = some (.string c.n) := by rw [← hW1]; simp [go_sem]
  have a5 : W1.cell? ⟨w.heap.size, 5, none⟩ = some (.int .i64 c.t) := by rw [← hW1]; simp [go_sem]
  have a6 : W1.cell? ⟨w.heap.size, 6, none⟩ = some (.int .i64 c.z) := by rw [← hW1]; simp [go_sem]
  have a7 : W1.cell? ⟨w.heap.size, 7, none⟩ = some (.bool c.u) := by rw [← hW1]; simp [go_sem]
  have a8 : W1.cell? ⟨w.heap.size, 8, none⟩ = some (.nilFunc) := by rw [← hW1]; simp [go_sem]
  have a9 : W1.cell? ⟨w.heap.size, 9, none⟩ = some (.nilFunc) := by rw [← hW1]; simp [go_sem]
  have a10 : W1.cell? ⟨w.heap.size, 10, none⟩ = some (.bool false) := by rw [← hW1]; simp [go_sem]
  have b0 : W1.cell? ⟨w.heap.size + 1, 0, none⟩ = some (.int .i64 v.k) := by rw [← hW1]; simp [go_sem]
  have b1 : W1.cell? ⟨w.heap.size + 1, 1, none⟩ = some (.int .i64 v.i) := by rw [← hW1]; simp [go_sem]
  have b2 : W1.cell? ⟨w.heap.size + 1, 2, none⟩ = some (.int .u64 v.u) := by rw [← hW1]; simp [go_sem]
  have b3 : W1.cell? ⟨w.heap.size + 1, 3, none⟩ = some (.string v.s) := by rw [← hW1]; simp [go_sem]
  have r0 : W1.cell? ⟨w.heap.size + 1 + 1, 0, none⟩ = some (.int .i64 0) := by rw [← hW1]; simp [go_sem]
  have r1 : W1.cell? ⟨w.heap.size + 1 + 1, 1, none⟩ = some (.int .i64 0) := by rw [← hW1]; simp [go_sem]
  have r2 : W1.cell? ⟨w.heap.size + 1 + 1, 2, none⟩ = some (.int .u64 0) := by rw [← hW1]; simp [go_sem]
  have r3 : W1.cell? ⟨w.heap.size + 1 + 1, 3, none⟩ = some (.string ⟨#[]⟩) := by rw [← hW1]; simp [go_sem]
  have fr0 : W1.frozen? ⟨w.heap.size + 1 + 1, 0, none⟩ = false := by rw [← hW1]; simp [go_sem]
  have fr1 : W1.frozen? ⟨w.heap.size + 1 + 1, 1, none⟩ = false := by rw [← hW1]; simp [go_sem]
  have fr2 : W1.frozen? ⟨w.heap.size + 1 + 1, 2, none⟩ = false := by rw [← hW1]; simp [go_sem]
  have fr3 : W1.frozen? ⟨w.heap.size + 1 + 1, 3, none⟩ = false := by rw [← hW1]; simp [go_sem]
  rw [hW1]
  have HB1 := Lib.hid hb1
  clear hW1 hb1
  go_wp2_with (go_at_call 71; refine (Of_any _ _ _).mono ?_; rintro e w' ⟨rfl, rfl⟩)
  refine (HF.out c v _ n1 HB1.out).mono ?_
  rintro e w2 ⟨rfl, hb2⟩
  rw [HM1.out]
  have HB2 := Lib.hid (HB1.out.trans (hb2.mono HB1.out.size))
  replace fr0 := keep_frozen hb2 (World.block_lt_of_cell? _ _ r0) fr0
  replace fr1 := keep_frozen hb2 (World.block_lt_of_cell? _ _ r1) fr1
  replace fr2 := keep_frozen hb2 (World.block_lt_of_cell? _ _ r2) fr2
  replace fr3 := keep_frozen hb2 (World.block_lt_of_cell? _ _ r3) fr3
  replace a0 := keep_cell hb2 a0
  replace a1 := keep_cell hb2 a1
  replace a2 := keep_cell hb2 a2
  replace a3 := keep_cell hb2 a3
  replace a4 := keep_cell hb2 a4
  replace a5 := keep_cell hb2 a5
  replace a6 := keep_cell hb2 a6
  replace a7 := keep_cell hb2 a7
  replace a8 := keep_cell hb2 a8
  replace a9 := keep_cell hb2 a9
  replace a10 := keep_cell hb2 a10
  replace b0 := keep_cell hb2 b0
  replace b1 := keep_cell hb2 b1
  replace b2 := keep_cell hb2 b2
  replace b3 := keep_cell hb2 b3
  replace r0 := keep_cell hb2 r0
  replace r1 := keep_cell hb2 r1
  replace r2 := keep_cell hb2 r2
  replace r3 := keep_cell hb2 r3
  have hy2 : w.heap.size + 1 + 1 < w2.heap.size := World.block_lt_of_cell? _ _ r0
  have hy1 : w.heap.size + 1 < w2.heap.size := by omega
  have hy0 : w.heap.size < w2.heap.size := by omega
  clear hb2
  have hyz := hy2
  go_wp2_with (go_at_call 71; refine (Of_any _ _ _).mono ?_; rintro e w' ⟨rfl, rfl⟩)
  refine bodyPost_ret (v := .tuple #[.agg #[.int .i64 0, .int .i64 0, .int .u64 0, .string ⟨#[]⟩], .iface 147 (.pointer (some ⟨w2.heap.size, 0, none⟩))]) (by simp [results, Tryz.results59, go_sem, r0, r1, r2, r3, hyz]) rfl ⟨w2.heap.size, rfl, by omega, ?_, ?_⟩
  · simp [go_sem]
  · repeat' first | exact HB2.out | (refine Below.setCell ?_ (by simp; try omega) _) | (refine Below.alloc ?_ (by have := HB2.out.size; simp; try omega) _)
end Go.Proofs.YtmgeefhacnadcaaGreatDoor
namespace Go.Proofs.YtmgeefhacnadcaaGreatDoor
open Go.RowKit

set_option maxRecDepth 100000 in
set_option maxHeartbeats 4000000 in
theorem cconv_nullbad (c d : Col) (v : Vl) (w : World) (hE : Env w) (n1 : c.n.size ≤ 9223372036854775807) (n2 : d.n.size ≤ 9223372036854775807) (f g : Nat) (hm : fitsN c v = 0) (hk : v.k = 0) (m2 : Int) (hm2 : fitsN d v = m2) (h2 : m2 ≠ 0) :
    Calls Tryz.prog 59 #[.agg #[.string d.n, .int .i64 d.t, .int .i64 d.z, .bool d.u, .string c.n, .int .i64 c.t, .int .i64 c.z, .bool c.u, .func (.func f) #[] #[], .func (.func g) #[] #[], .bool true], .agg #[.int .i64 v.k, .int .i64 v.i, .int .u64 v.u, .string v.s]] w fun e w' => ∃ b, e = .returned (.tuple #[.agg #[.int .i64 0, .int .i64 0, .int .u64 0, .string ⟨#[]⟩], .iface 147 (.pointer (some ⟨b, 0, none⟩))]) ∧ w.heap.size ≤ b ∧ w'.cell? ⟨b, 1, none⟩ = some (.int .i64 161) ∧ Below w.heap.size w w' := by
  have HF : Hid (∀ (x : Col) (y : Vl) W, x.n.size ≤ 9223372036854775807 → Below w.heap.size w W → Calls Tryz.prog 21 #[.agg #[.string x.n, .int .i64 x.t, .int .i64 x.z, .bool x.u], .agg #[.int .i64 y.k, .int .i64 y.i, .int .u64 y.u, .string y.s]] W fun e w' => e = .returned (.int .i64 (fitsN x y)) ∧ Below W.heap.size W w') := Lib.hid (fun x y W h hb => Fits_any x y W (hE.keep hb).et h)
  clear hE
  have HM1 := Lib.hid hm
  have HM2 := Lib.hid hm2
  have hkb : (v.k != 0) = false := by simp [hk]
  have hmb : (m2 != 0) = true := by simpa using h2
  clear hm hm2 hk h2
  go_enter Tryz.func59, Tryz.ntmps59
  go_upto_region 1 with fail
  obtain ⟨W1, hW1⟩ : ∃ W1, ((w.alloc (.cells #[.string d.n, .int .i64 d.t, .int .i64 d.z, .bool d.u, .string c.n, .int .i64 c.t, .int .i64 c.z, .bool c.u, .func (.func f) #[] #[], .func (.func g) #[] #[], .bool true] 80)).alloc (.cells #[.int .i64 v.k, .int .i64 v.i, .int .u64 v.u, .string v.s] 28)).alloc (.cells #[.int .i64 0, .int .i64 0, .int .u64 0, .string ⟨#[]⟩] 28) = W1 := ⟨_, rfl⟩
  have hb1 : Below w.heap.size w W1 := by rw [← hW1]; exact (((Below.refl _ _).alloc (Nat.le_refl _) _).alloc (by simp) _).alloc (by simp; omega) _
  have a0 : W1.cell? ⟨w.heap.size, 0, none⟩ = some (.string d.n) := by rw [← hW1]; simp [go_sem]
  have a1 : W1.cell? ⟨w.heap.size, 1, none⟩ = some (.int .i64 d.t) := by rw [← hW1]; simp [go_sem]
  have a2 : W1.cell? ⟨w.heap.size, 2, none⟩ = some (.int .i64 d.z) := by rw [← hW1]; simp [go_sem]
  have a3 : W1.cell? ⟨w.heap.size, 3, none⟩ = some (.bool d.u) := by rw [← hW1]; simp [go_sem]
  have a4 : W1.cell? ⟨w.heap.size, 4, none⟩ = some (.string c.n) := by rw [← hW1]; simp [go_sem]
  have a5 : W1.cell? ⟨w.heap.size, 5, none⟩ = some (.int .i64 c.t) := by rw [← hW1]; simp [go_sem]
  have a6 : W1.cell? ⟨w.heap.size, 6, none⟩ = some (.int .i64 c.z) := by rw [← hW1]; simp [go_sem]
  have a7 : W1.cell? ⟨w.heap.size, 7, none⟩ = some (.bool c.u) := by rw [← hW1]; simp [go_sem]
  have a8 : W1.cell? ⟨w.heap.size, 8, none⟩ = some (.func (.func f) #[] #[]) := by rw [← hW1]; simp [go_sem]
  have a9 : W1.cell? ⟨w.heap.size, 9, none⟩ = some (.func (.func g) #[] #[]) := by rw [← hW1]; simp [go_sem]
  have a10 : W1.cell? ⟨w.heap.size, 10, none⟩ = some (.bool true) := by rw [← hW1]; simp [go_sem]
  have b0 : W1.cell? ⟨w.heap.size + 1, 0, none⟩ = some (.int .i64 v.k) := by rw [← hW1]; simp [go_sem]
  have b1 : W1.cell? ⟨w.heap.size + 1, 1, none⟩ = some (.int .i64 v.i) := by rw [← hW1]; simp [go_sem]
  have b2 : W1.cell? ⟨w.heap.size + 1, 2, none⟩ = some (.int .u64 v.u) := by rw [← hW1]; simp [go_sem]
  have b3 : W1.cell? ⟨w.heap.size + 1, 3, none⟩ = some (.string v.s) := by rw [← hW1]; simp [go_sem]
  have r0 : W1.cell? ⟨w.heap.size + 1 + 1, 0, none⟩ = some (.int .i64 0) := by rw [← hW1]; simp [go_sem]
  have r1 : W1.cell? ⟨w.heap.size + 1 + 1, 1, none⟩ = some (.int .i64 0) := by rw [← hW1]; simp [go_sem]
  have r2 : W1.cell? ⟨w.heap.size + 1 + 1, 2, none⟩ = some (.int .u64 0) := by rw [← hW1]; simp [go_sem]
  have r3 : W1.cell? ⟨w.heap.size + 1 + 1, 3, none⟩ = some (.string ⟨#[]⟩) := by rw [← hW1]; simp [go_sem]
  have fr0 : W1.frozen? ⟨w.heap.size + 1 + 1, 0, none⟩ = false := by rw [← hW1]; simp [go_sem]
  have fr1 : W1.frozen? ⟨w.heap.size + 1 + 1, 1, none⟩ = false := by rw [← hW1]; simp [go_sem]
  have fr2 : W1.frozen? ⟨w.heap.size + 1 + 1, 2, none⟩ = false := by rw [← hW1]; simp [go_sem]
  have fr3 : W1.frozen? ⟨w.heap.size + 1 + 1, 3, none⟩ = false := by rw [← hW1]; simp [go_sem]
  rw [hW1]
  have HB1 := Lib.hid hb1
  clear hW1 hb1
  go_wp2_with (go_at_call 71; refine (Of_any _ _ _).mono ?_; rintro e w' ⟨rfl, rfl⟩)
  refine (HF.out c v _ n1 HB1.out).mono ?_
  rintro e w2 ⟨rfl, hb2⟩
  rw [HM1.out]
  have HB2 := Lib.hid (HB1.out.trans (hb2.mono HB1.out.size))
  replace fr0 := keep_frozen hb2 (World.block_lt_of_cell? _ _ r0) fr0
  replace fr1 := keep_frozen hb2 (World.block_lt_of_cell? _ _ r1) fr1
  replace fr2 := keep_frozen hb2 (World.block_lt_of_cell? _ _ r2) fr2
  replace fr3 := keep_frozen hb2 (World.block_lt_of_cell? _ _ r3) fr3
  replace a0 := keep_cell hb2 a0
  replace a1 := keep_cell hb2 a1
  replace a2 := keep_cell hb2 a2
  replace a3 := keep_cell hb2 a3
  replace a4 := keep_cell hb2 a4
  replace a5 := keep_cell hb2 a5
  replace a6 := keep_cell hb2 a6
  replace a7 := keep_cell hb2 a7
  replace a8 := keep_cell hb2 a8
  replace a9 := keep_cell hb2 a9
  replace a10 := keep_cell hb2 a10
  replace b0 := keep_cell hb2 b0
  replace b1 := keep_cell hb2 b1
  replace b2 := keep_cell hb2 b2
  replace b3 := keep_cell hb2 b3
  replace r0 := keep_cell hb2 r0
  replace r1 := keep_cell hb2 r1
  replace r2 := keep_cell hb2 r2
  replace r3 := keep_cell hb2 r3
  have hy2 : w.heap.size + 1 + 1 < w2.heap.size := World.block_lt_of_cell? _ _ r0
  have hy1 : w.heap.size + 1 < w2.heap.size := by omega
  have hy0 : w.heap.size < w2.heap.size := by omega
  clear hb2
  go_upto_region 7 with fail
  obtain ⟨W3, hW3⟩ : ∃ W3, w2.alloc (.cells #[.int .i64 v.k, .int .i64 v.i, .int .u64 v.u, .string v.s] 28) = W3 := ⟨_, rfl⟩
  have hb3 : Below w2.heap.size w2 W3 := by rw [← hW3]; exact (Below.refl _ _).alloc (Nat.le_refl _) _
  have q0 : W3.cell? ⟨w2.heap.size, 0, none⟩ = some (.int .i64 v.k) := by rw [← hW3]; simp [go_sem]
  have q1 : W3.cell? ⟨w2.heap.size, 1, none⟩ = some (.int .i64 v.i) := by rw [← hW3]; simp [go_sem]
  have q2 : W3.cell? ⟨w2.heap.size, 2, none⟩ = some (.int .u64 v.u) := by rw [← hW3]; simp [go_sem]
  have q3 : W3.cell? ⟨w2.heap.size, 3, none⟩ = some (.string v.s) := by rw [← hW3]; simp [go_sem]
  have fq0 : W3.frozen? ⟨w2.heap.size, 0, none⟩ = false := by rw [← hW3]; simp [go_sem]
  have fq1 : W3.frozen? ⟨w2.heap.size, 1, none⟩ = false := by rw [← hW3]; simp [go_sem]
  have fq2 : W3.frozen? ⟨w2.heap.size, 2, none⟩ = false := by rw [← hW3]; simp [go_sem]
  have fq3 : W3.frozen? ⟨w2.heap.size, 3, none⟩ = false := by rw [← hW3]; simp [go_sem]
  replace fr0 := keep_frozen hb3 (World.block_lt_of_cell? _ _ r0) fr0
  replace fr1 := keep_frozen hb3 (World.block_lt_of_cell? _ _ r1) fr1
  replace fr2 := keep_frozen hb3 (World.block_lt_of_cell? _ _ r2) fr2
  replace fr3 := keep_frozen hb3 (World.block_lt_of_cell? _ _ r3) fr3
  replace a0 := keep_cell hb3 a0
  replace a1 := keep_cell hb3 a1
  replace a2 := keep_cell hb3 a2
  replace a3 := keep_cell hb3 a3
  replace a4 := keep_cell hb3 a4
  replace a5 := keep_cell hb3 a5
  replace a6 := keep_cell hb3 a6
  replace a7 := keep_cell hb3 a7
  replace a8 := keep_cell hb3 a8
  replace a9 := keep_cell hb3 a9
  replace a10 := keep_cell hb3 a10
  replace b0 := keep_cell hb3 b0
  replace b1 := keep_cell hb3 b1
  replace b2 := keep_cell hb3 b2
  replace b3 := keep_cell hb3 b3
  replace r0 := keep_cell hb3 r0
  replace r1 := keep_cell hb3 r1
  replace r2 := keep_cell hb3 r2
  replace r3 := keep_cell hb3 r3
  rw [hW3]
  have HB3 := Lib.hid (HB2.out.trans (hb3.mono HB2.out.size))
  clear hW3 hb3
  go_wp2_with (go_at_call 71; refine (Of_any _ _ _).mono ?_; rintro e w' ⟨rfl, rfl⟩)
  refine (HF.out d v _ n2 HB3.out).mono ?_
  rintro e w5 ⟨rfl, hb5⟩
  rw [HM2.out]
  have HB5 := Lib.hid (HB3.out.trans (hb5.mono HB3.out.size))
  replace fr0 := keep_frozen hb5 (World.block_lt_of_cell? _ _ r0) fr0
  replace fr1 := keep_frozen hb5 (World.block_lt_of_cell? _ _ r1) fr1
  replace fr2 := keep_frozen hb5 (World.block_lt_of_cell? _ _ r2) fr2
  replace fr3 := keep_frozen hb5 (World.block_lt_of_cell? _ _ r3) fr3
  replace a0 := keep_cell hb5 a0
  replace a1 := keep_cell hb5 a1
  replace a2 := keep_cell hb5 a2
  replace a3 := keep_cell hb5 a3
  replace a4 := keep_cell hb5 a4
  replace a5 := keep_cell hb5 a5
  replace a6 := keep_cell hb5 a6
  replace a7 := keep_cell hb5 a7
  replace a8 := keep_cell hb5 a8
  replace a9 := keep_cell hb5 a9
  replace a10 := keep_cell hb5 a10
  replace b0 := keep_cell hb5 b0
  replace b1 := keep_cell hb5 b1
  replace b2 := keep_cell hb5 b2
  replace b3 := keep_cell hb5 b3
  replace r0 := keep_cell hb5 r0
  replace r1 := keep_cell hb5 r1
  replace r2 := keep_cell hb5 r2
  replace r3 := keep_cell hb5 r3
  replace q0 := keep_cell hb5 q0
  replace q1 := keep_cell hb5 q1
  replace q2 := keep_cell hb5 q2
  replace q3 := keep_cell hb5 q3
  have hyz : w.heap.size + 1 + 1 < w5.heap.size := World.block_lt_of_cell? _ _ r0
  clear hb5 hy0 hy1 hy2
  go_wp2_with (go_at_call 71; refine (Of_any _ _ _).mono ?_; rintro e w' ⟨rfl, rfl⟩)
  refine bodyPost_ret (v := .tuple #[.agg #[.int .i64 0, .int .i64 0, .int .u64 0, .string ⟨#[]⟩], .iface 147 (.pointer (some ⟨w5.heap.size, 0, none⟩))]) (by simp [results, Tryz.results59, go_sem, r0, r1, r2, r3, hyz]) rfl ⟨w5.heap.size, rfl, by omega, ?_, ?_⟩
  · simp [go_sem]
  · repeat' first | exact HB5.out | (refine Below.setCell ?_ (by simp; try omega) _) | (refine Below.alloc ?_ (by have := HB5.out.size; simp; try omega) _)
end Go.Proofs.YtmgeefhacnadcaaGreatDoor
namespace Go.Proofs.YtmgeefhacnadcaaGreatDoor
open Go.RowKit

set_option maxRecDepth 100000 in
set_option maxHeartbeats 4000000 in
theorem cconv_nullgood (c d : Col) (v : Vl) (w : World) (hE : Env w) (n1 : c.n.size ≤ 9223372036854775807) (n2 : d.n.size ≤ 9223372036854775807) (f g : Nat) (hm : fitsN c v = 0) (hk : v.k = 0) (m2 : Int) (hm2 : fitsN d v = m2) (h2 : m2 = 0) :
    Calls Tryz.prog 59 #[.agg #[.string d.n, .int .i64 d.t, .int .i64 d.z, .bool d.u, .string c.n, .int .i64 c.t, .int .i64 c.z, .bool c.u, .func (.func f) #[] #[], .func (.func g) #[] #[], .bool true], .agg #[.int .i64 v.k, .int .i64 v.i, .int .u64 v.u, .string v.s]] w fun e w' => e = .returned (.tuple #[.agg #[.int .i64 v.k, .int .i64 v.i, .int .u64 v.u, .string v.s], .nilIface]) ∧ Below w.heap.size w w' := by
  have HF : Hid (∀ (x : Col) (y : Vl) W, x.n.size ≤ 9223372036854775807 → Below w.heap.size w W → Calls Tryz.prog 21 #[.agg #[.string x.n, .int .i64 x.t, .int .i64 x.z, .bool x.u], .agg #[.int .i64 y.k, .int .i64 y.i, .int .u64 y.u, .string y.s]] W fun e w' => e = .returned (.int .i64 (fitsN x y)) ∧ Below W.heap.size W w') := Lib.hid (fun x y W h hb => Fits_any x y W (hE.keep hb).et h)
  clear hE
  have HM1 := Lib.hid hm
  have HM2 := Lib.hid hm2
  have hkb : (v.k != 0) = false := by simp [hk]
  have hmb : (m2 != 0) = false := by simp [h2]
  clear hm hm2 hk h2
  go_enter Tryz.func59, Tryz.ntmps59
  go_upto_region 1 with fail
  obtain ⟨W1, hW1⟩ : ∃ W1, ((w.alloc (.cells #[.string d.n, .int .i64 d.t, .int .i64 d.z, .bool d.u, .string c.n, .int .i64 c.t, .int .i64 c.z, .bool c.u, .func (.func f) #[] #[], .func (.func g) #[] #[], .bool true] 80)).alloc (.cells #[.int .i64 v.k, .int .i64 v.i, .int .u64 v.u, .string v.s] 28)).alloc (.cells #[.int .i64 0, .int .i64 0, .int .u64 0, .string ⟨#[]⟩] 28) = W1 := ⟨_, rfl⟩
  have hb1 : Below w.heap.size w W1 := by rw [← hW1]; exact (((Below.refl _ _).alloc (Nat.le_refl _) _).alloc (by simp) _).alloc (by simp; omega) _
  have a0 : W1.cell? ⟨w.heap.size, 0, none⟩ = some (.string d.n) := by rw [← hW1]; simp [go_sem]
  have a1 : W1.cell? ⟨w.heap.size, 1, none⟩ = some (.int .i64 d.t) := by rw [← hW1]; simp [go_sem]
  have a2 : W1.cell? ⟨w.heap.size, 2, none⟩ = some (.int .i64 d.z) := by rw [← hW1]; simp [go_sem]
  have a3 : W1.cell? ⟨w.heap.size, 3, none⟩ = some (.bool d.u) := by rw [← hW1]; simp [go_sem]
  have a4 : W1.cell? ⟨w.heap.size, 4, none⟩ = some (.string c.n) := by rw [← hW1]; simp [go_sem]
  have a5 : W1.cell? ⟨w.heap.size, 5, none⟩ = some (.int .i64 c.t) := by rw [← hW1]; simp [go_sem]
  have a6 : W1.cell? ⟨w.heap.size, 6, none⟩ = some (.int .i64 c.z) := by rw [← hW1]; simp [go_sem]
  have a7 : W1.cell? ⟨w.heap.size, 7, none⟩ = some (.bool c.u) := by rw [← hW1]; simp [go_sem]
  have a8 : W1.cell? ⟨w.heap.size, 8, none⟩ = some (.func (.func f) #[] #[]) := by rw [← hW1]; simp [go_sem]
  have a9 : W1.cell? ⟨w.heap.size, 9, none⟩ = some (.func (.func g) #[] #[]) := by rw [← hW1]; simp [go_sem]
  have a10 : W1.cell? ⟨w.heap.size, 10, none⟩ = some (.bool true) := by rw [← hW1]; simp [go_sem]
  have b0 : W1.cell? ⟨w.heap.size + 1, 0, none⟩ = some (.int .i64 v.k) := by rw [← hW1]; simp [go_sem]
  have b1 : W1.cell? ⟨w.heap.size + 1, 1, none⟩ = some (.int .i64 v.i) := by rw [← hW1]; simp [go_sem]
  have b2 : W1.cell? ⟨w.heap.size + 1, 2, none⟩ = some (.int .u64 v.u) := by rw [← hW1]; simp [go_sem]
  have b3 : W1.cell? ⟨w.heap.size + 1, 3, none⟩ = some (.string v.s) := by rw [← hW1]; simp [go_sem]
  have r0 : W1.cell? ⟨w.heap.size + 1 + 1, 0, none⟩ = some (.int .i64 0) := by rw [← hW1]; simp [go_sem]
  have r1 : W1.cell? ⟨w.heap.size + 1 + 1, 1, none⟩ = some (.int .i64 0) := by rw [← hW1]; simp [go_sem]
  have r2 : W1.cell? ⟨w.heap.size + 1 + 1, 2, none⟩ = some (.int .u64 0) := by rw [← hW1]; simp [go_sem]
  have r3 : W1.cell? ⟨w.heap.size + 1 + 1, 3, none⟩ = some (.string ⟨#[]⟩) := by rw [← hW1]; simp [go_sem]
  have fr0 : W1.frozen? ⟨w.heap.size + 1 + 1, 0, none⟩ = false := by rw [← hW1]; simp [go_sem]
  have fr1 : W1.frozen? ⟨w.heap.size + 1 + 1, 1, none⟩ = false := by rw [← hW1]; simp [go_sem]
  have fr2 : W1.frozen? ⟨w.heap.size + 1 + 1, 2, none⟩ = false := by rw [← hW1]; simp [go_sem]
  have fr3 : W1.frozen? ⟨w.heap.size + 1 + 1, 3, none⟩ = false := by rw [← hW1]; simp [go_sem]
  rw [hW1]
  have HB1 := Lib.hid hb1
  clear hW1 hb1
  go_wp2_with (go_at_call 71; refine (Of_any _ _ _).mono ?_; rintro e w' ⟨rfl, rfl⟩)
  refine (HF.out c v _ n1 HB1.out).mono ?_
  rintro e w2 ⟨rfl, hb2⟩
  rw [HM1.out]
  have HB2 := Lib.hid (HB1.out.trans (hb2.mono HB1.out.size))
  replace fr0 := keep_frozen hb2 (World.block_lt_of_cell? _ _ r0) fr0
  replace fr1 := keep_frozen hb2 (World.block_lt_of_cell? _ _ r1) fr1
  replace fr2 := keep_frozen hb2 (World.block_lt_of_cell? _ _ r2) fr2
  replace fr3 := keep_frozen hb2 (World.block_lt_of_cell? _ _ r3) fr3
  replace a0 := keep_cell hb2 a0
  replace a1 := keep_cell hb2 a1
  replace a2 := keep_cell hb2 a2
  replace a3 := keep_cell hb2 a3
  replace a4 := keep_cell hb2 a4
  replace a5 := keep_cell hb2 a5
  replace a6 := keep_cell hb2 a6
  replace a7 := keep_cell hb2 a7
  replace a8 := keep_cell hb2 a8
  replace a9 := keep_cell hb2 a9
  replace a10 := keep_cell hb2 a10
  replace b0 := keep_cell hb2 b0
  replace b1 := keep_cell hb2 b1
  replace b2 := keep_cell hb2 b2
  replace b3 := keep_cell hb2 b3
  replace r0 := keep_cell hb2 r0
  replace r1 := keep_cell hb2 r1
  replace r2 := keep_cell hb2 r2
  replace r3 := keep_cell hb2 r3
  have hy2 : w.heap.size + 1 + 1 < w2.heap.size := World.block_lt_of_cell? _ _ r0
  have hy1 : w.heap.size + 1 < w2.heap.size := by omega
  have hy0 : w.heap.size < w2.heap.size := by omega
  clear hb2
  go_upto_region 7 with fail
  obtain ⟨W3, hW3⟩ : ∃ W3, w2.alloc (.cells #[.int .i64 v.k, .int .i64 v.i, .int .u64 v.u, .string v.s] 28) = W3 := ⟨_, rfl⟩
  have hb3 : Below w2.heap.size w2 W3 := by rw [← hW3]; exact (Below.refl _ _).alloc (Nat.le_refl _) _
  have q0 : W3.cell? ⟨w2.heap.size, 0, none⟩ = some (.int .i64 v.k) := by rw [← hW3]; simp [go_sem]
  have q1 : W3.cell? ⟨w2.heap.size, 1, none⟩ = some (.int .i64 v.i) := by rw [← hW3]; simp [go_sem]
  have q2 : W3.cell? ⟨w2.heap.size, 2, none⟩ = some (.int .u64 v.u) := by rw [← hW3]; simp [go_sem]
  have q3 : W3.cell? ⟨w2.heap.size, 3, none⟩ = some (.string v.s) := by rw [← hW3]; simp [go_sem]
  have fq0 : W3.frozen? ⟨w2.heap.size, 0, none⟩ = false := by rw [← hW3]; simp [go_sem]
  have fq1 : W3.frozen? ⟨w2.heap.size, 1, none⟩ = false := by rw [← hW3]; simp [go_sem]
  have fq2 : W3.frozen? ⟨w2.heap.size, 2, none⟩ = false := by rw [← hW3]; simp [go_sem]
  have fq3 : W3.frozen? ⟨w2.heap.size, 3, none⟩ = false := by rw [← hW3]; simp [go_sem]
  replace fr0 := keep_frozen hb3 (World.block_lt_of_cell? _ _ r0) fr0
  replace fr1 := keep_frozen hb3 (World.block_lt_of_cell? _ _ r1) fr1
  replace fr2 := keep_frozen hb3 (World.block_lt_of_cell? _ _ r2) fr2
  replace fr3 := keep_frozen hb3 (World.block_lt_of_cell? _ _ r3) fr3
  replace a0 := keep_cell hb3 a0
  replace a1 := keep_cell hb3 a1
  replace a2 := keep_cell hb3 a2
  replace a3 := keep_cell hb3 a3
  replace a4 := keep_cell hb3 a4
  replace a5 := keep_cell hb3 a5
  replace a6 := keep_cell hb3 a6
  replace a7 := keep_cell hb3 a7
  replace a8 := keep_cell hb3 a8
  replace a9 := keep_cell hb3 a9
  replace a10 := keep_cell hb3 a10
  replace b0 := keep_cell hb3 b0
  replace b1 := keep_cell hb3 b1
  replace b2 := keep_cell hb3 b2
  replace b3 := keep_cell hb3 b3
  replace r0 := keep_cell hb3 r0
  replace r1 := keep_cell hb3 r1
  replace r2 := keep_cell hb3 r2
  replace r3 := keep_cell hb3 r3
  rw [hW3]
  have HB3 := Lib.hid (HB2.out.trans (hb3.mono HB2.out.size))
  clear hW3 hb3
  go_wp2_with (go_at_call 71; refine (Of_any _ _ _).mono ?_; rintro e w' ⟨rfl, rfl⟩)
  refine (HF.out d v _ n2 HB3.out).mono ?_
  rintro e w5 ⟨rfl, hb5⟩
  rw [HM2.out]
  have HB5 := Lib.hid (HB3.out.trans (hb5.mono HB3.out.size))
  replace fr0 := keep_frozen hb5 (World.block_lt_of_cell? _ _ r0) fr0
  replace fr1 := keep_frozen hb5 (World.block_lt_of_cell? _ _ r1) fr1
  replace fr2 := keep_frozen hb5 (World.block_lt_of_cell? _ _ r2) fr2
  replace fr3 := keep_frozen hb5 (World.block_lt_of_cell? _ _ r3) fr3
  replace a0 := keep_cell hb5 a0
  replace a1 := keep_cell hb5 a1
  replace a2 := keep_cell hb5 a2
  replace a3 := keep_cell hb5 a3
  replace a4 := keep_cell hb5 a4
  replace a5 := keep_cell hb5 a5
  replace a6 := keep_cell hb5 a6
  replace a7 := keep_cell hb5 a7
  replace a8 := keep_cell hb5 a8
  replace a9 := keep_cell hb5 a9
  replace a10 := keep_cell hb5 a10
  replace b0 := keep_cell hb5 b0
  replace b1 := keep_cell hb5 b1
  replace b2 := keep_cell hb5 b2
  replace b3 := keep_cell hb5 b3
  replace r0 := keep_cell hb5 r0
  replace r1 := keep_cell hb5 r1
  replace r2 := keep_cell hb5 r2
  replace r3 := keep_cell hb5 r3
  replace q0 := keep_cell hb5 q0
  replace q1 := keep_cell hb5 q1
  replace q2 := keep_cell hb5 q2
  replace q3 := keep_cell hb5 q3
  have hyz : w.heap.size + 1 + 1 < w5.heap.size := World.block_lt_of_cell? _ _ r0
  clear hb5 hy0 hy1 hy2
  go_wp2_with (go_at_call 71; refine (Of_any _ _ _).mono ?_; rintro e w' ⟨rfl, rfl⟩)
  refine bodyPost_ret (v := .tuple #[.agg #[.int .i64 v.k, .int .i64 v.i, .int .u64 v.u, .string v.s], .nilIface]) (by simp [results, Tryz.results59, go_sem, r0, r1, r2, r3]) rfl ⟨rfl, ?_⟩
  repeat' first | exact HB5.out | (refine Below.setCell ?_ (by simp; try omega) _)
end Go.Proofs.YtmgeefhacnadcaaGreatDoor
namespace Go.Proofs.YtmgeefhacnadcaaGreatDoor
open Go.RowKit

set_option maxRecDepth 100000 in
set_option maxHeartbeats 4000000 in
theorem cconv_turnbad (c d : Col) (v : Vl) (w : World) (hE : Env w) (n1 : c.n.size ≤ 9223372036854775807) (f g : Nat) (hm : fitsN c v = 0) (hk : v.k ≠ 0) (x : Vl) (hcf : ∀ (a : Array Value) W, (callFunc f a).run Tryz.prog W = .ok (.enter f a) W) (hT : ∀ W, Below w.heap.size w W → Calls Tryz.prog f #[.agg #[.int .i64 v.k, .int .i64 v.i, .int .u64 v.u, .string v.s]] W fun e w' => e = .returned (.tuple #[.agg #[.int .i64 x.k, .int .i64 x.i, .int .u64 x.u, .string x.s], .bool false]) ∧ Below W.heap.size W w') :
    Calls Tryz.prog 59 #[.agg #[.string d.n, .int .i64 d.t, .int .i64 d.z, .bool d.u, .string c.n, .int .i64 c.t, .int .i64 c.z, .bool c.u, .func (.func f) #[] #[], .func (.func g) #[] #[], .bool true], .agg #[.int .i64 v.k, .int .i64 v.i, .int .u64 v.u, .string v.s]] w fun e w' => ∃ b, e = .returned (.tuple #[.agg #[.int .i64 0, .int .i64 0, .int .u64 0, .string ⟨#[]⟩], .iface 147 (.pointer (some ⟨b, 0, none⟩))]) ∧ w.heap.size ≤ b ∧ w'.cell? ⟨b, 1, none⟩ = some (.int .i64 161) ∧ Below w.heap.size w w' := by
  have HF : Hid (∀ (x : Col) (y : Vl) W, x.n.size ≤ 9223372036854775807 → Below w.heap.size w W → Calls Tryz.prog 21 #[.agg #[.string x.n, .int .i64 x.t, .int .i64 x.z, .bool x.u], .agg #[.int .i64 y.k, .int .i64 y.i, .int .u64 y.u, .string y.s]] W fun e w' => e = .returned (.int .i64 (fitsN x y)) ∧ Below W.heap.size W w') := Lib.hid (fun x y W h hb => Fits_any x y W (hE.keep hb).et h)
  clear hE
  have HM1 := Lib.hid hm
  have hkb : (v.k != 0) = true := by simpa using hk
  have HT := Lib.hid hT
  clear hm hk hT
  go_enter Tryz.func59, Tryz.ntmps59
  go_upto_region 1 with fail
  obtain ⟨W1, hW1⟩ : ∃ W1, ((w.alloc (.cells #[.string d.n, .int .i64 d.t, .int .i64 d.z, .bool d.u, .string c.n, .int .i64 c.t, .int .i64 c.z, .bool c.u, .func (.func f) #[] #[], .func (.func g) #[] #[], .bool true] 80)).alloc (.cells #[.int .i64 v.k, .int .i64 v.i, .int .u64 v.u, .string v.s] 28)).alloc (.cells #[.int .i64 0, .int .i64 0, .int .u64 0, .string ⟨#[]⟩] 28) = W1 := ⟨_, rfl⟩
  have hb1 : Below w.heap.size w W1 := by rw [← hW1]; exact (((Below.refl _ _).alloc (Nat.le_refl _) _).alloc (by simp) _).alloc (by simp; omega) _
  have a0 : W1.cell? ⟨w.heap.size, 0, none⟩ = some (.string d.n) := by rw [← hW1]; simp [go_sem]
  have a1 : W1.cell? ⟨w.heap.size, 1, none⟩ = some (.int .i64 d.t) := by rw [← hW1]; simp [go_sem]
  have a2 : W1.cell? ⟨w.heap.size, 2, none⟩ = some (.int .i64 d.z) := by rw [← hW1]; simp [go_sem]
  have a3 : W1.cell? ⟨w.heap.size, 3, none⟩ = some (.bool d.u) := by rw [← hW1]; simp [go_sem]
  have a4 : W1.cell? ⟨w.heap.size, 4, none⟩ = some (.string c.n) := by rw [← hW1]; simp [go_sem]
  have a5 : W1.cell? ⟨w.heap.size, 5, none⟩ = some (.int .i64 c.t) := by rw [← hW1]; simp [go_sem]
  have a6 : W1.cell? ⟨w.heap.size, 6, none⟩ = some (.int .i64 c.z) := by rw [← hW1]; simp [go_sem]
  have a7 : W1.cell? ⟨w.heap.size, 7, none⟩ = some (.bool c.u) := by rw [← hW1]; simp [go_sem]
  have a8 : W1.cell? ⟨w.heap.size, 8, none⟩ = some (.func (.func f) #[] #[]) := by rw [← hW1]; simp [go_sem]
  have a9 : W1.cell? ⟨w.heap.size, 9, none⟩ = some (.func (.func g) #[] #[]) := by rw [← hW1]; simp [go_sem]
  have a10 : W1.cell? ⟨w.heap.size, 10, none⟩ = some (.bool true) := by rw [← hW1]; simp [go_sem]
  have b0 : W1.cell? ⟨w.heap.size + 1, 0, none⟩ = some (.int .i64 v.k) := by rw [← hW1]; simp [go_sem]
  have b1 : W1.cell? ⟨w.heap.size + 1, 1, none⟩ = some (.int .i64 v.i) := by rw [← hW1]; simp [go_sem]
  have b2 : W1.cell? ⟨w.heap.size + 1, 2, none⟩ = some (.int .u64 v.u) := by rw [← hW1]; simp [go_sem]
  have b3 : W1.cell? ⟨w.heap.size + 1, 3, none⟩ = some (.string v.s) := by rw [← hW1]; simp [go_sem]
  have r0 : W1.cell? ⟨w.heap.size + 1 + 1, 0, none⟩ = some (.int .i64 0) := by rw [← hW1]; simp [go_sem]
  have r1 : W1.cell? ⟨w.heap.size + 1 + 1, 1, none⟩ = some (.int .i64 0) := by rw [← hW1]; simp [go_sem]
  have r2 : W1.cell? ⟨w.heap.size + 1 + 1, 2, none⟩ = some (.int .u64 0) := by rw [← hW1]; simp [go_sem]
  have r3 : W1.cell? ⟨w.heap.size + 1 + 1, 3, none⟩ = some (.string ⟨#[]⟩) := by rw [← hW1]; simp [go_sem]
  have fr0 : W1.frozen? ⟨w.heap.size + 1 + 1, 0, none⟩ = false := by rw [← hW1]; simp [go_sem]
  have fr1 : W1.frozen? ⟨w.heap.size + 1 + 1, 1, none⟩ = false := by rw [← hW1]; simp [go_sem]
  have fr2 : W1.frozen? ⟨w.heap.size + 1 + 1, 2, none⟩ = false := by rw [← hW1]; simp [go_sem]
  have fr3 : W1.frozen? ⟨w.heap.size + 1 + 1, 3, none⟩ = false := by rw [← hW1]; simp [go_sem]
  rw [hW1]
  have HB1 := Lib.hid hb1
  clear hW1 hb1
  go_wp2_with (go_at_call 71; refine (Of_any _ _ _).mono ?_; rintro e w' ⟨rfl, rfl⟩)
  refine (HF.out c v _ n1 HB1.out).mono ?_
  rintro e w2 ⟨rfl, hb2⟩
  rw [HM1.out]
  have HB2 := Lib.hid (HB1.out.trans (hb2.mono HB1.out.size))
  replace fr0 := keep_frozen hb2 (World.block_lt_of_cell? _ _ r0) fr0
  replace fr1 := keep_frozen hb2 (World.block_lt_of_cell? _ _ r1) fr1
  replace fr2 := keep_frozen hb2 (World.block_lt_of_cell? _ _ r2) fr2
  replace fr3 := keep_frozen hb2 (World.block_lt_of_cell? _ _ r3) fr3
  replace a0 := keep_cell hb2 a0
  replace a1 := keep_cell hb2 a1
  replace a2 := keep_cell hb2 a2
  replace a3 := keep_cell hb2 a3
  replace a4 := keep_cell hb2 a4
  replace a5 := keep_cell hb2 a5
  replace a6 := keep_cell hb2 a6
  replace a7 := keep_cell hb2 a7
  replace a8 := keep_cell hb2 a8
  replace a9 := keep_cell hb2 a9
  replace a10 := keep_cell hb2 a10
  replace b0 := keep_cell hb2 b0
  replace b1 := keep_cell hb2 b1
  replace b2 := keep_cell hb2 b2
  replace b3 := keep_cell hb2 b3
  replace r0 := keep_cell hb2 r0
  replace r1 := keep_cell hb2 r1
  replace r2 := keep_cell hb2 r2
  replace r3 := keep_cell hb2 r3
  have hy2 : w.heap.size + 1 + 1 < w2.heap.size := World.block_lt_of_cell? _ _ r0
  have hy1 : w.heap.size + 1 < w2.heap.size := by omega
  have hy0 : w.heap.size < w2.heap.size := by omega
  clear hb2
  go_upto_region 7 with fail
  obtain ⟨W3, hW3⟩ : ∃ W3, w2.alloc (.cells #[.int .i64 v.k, .int .i64 v.i, .int .u64 v.u, .string v.s] 28) = W3 := ⟨_, rfl⟩
  have hb3 : Below w2.heap.size w2 W3 := by rw [← hW3]; exact (Below.refl _ _).alloc (Nat.le_refl _) _
  have q0 : W3.cell? ⟨w2.heap.size, 0, none⟩ = some (.int .i64 v.k) := by rw [← hW3]; simp [go_sem]
  have q1 : W3.cell? ⟨w2.heap.size, 1, none⟩ = some (.int .i64 v.i) := by rw [← hW3]; simp [go_sem]
  have q2 : W3.cell? ⟨w2.heap.size, 2, none⟩ = some (.int .u64 v.u) := by rw [← hW3]; simp [go_sem]
  have q3 : W3.cell? ⟨w2.heap.size, 3, none⟩ = some (.string v.s) := by rw [← hW3]; simp [go_sem]
  have fq0 : W3.frozen? ⟨w2.heap.size, 0, none⟩ = false := by rw [← hW3]; simp [go_sem]
  have fq1 : W3.frozen? ⟨w2.heap.size, 1, none⟩ = false := by rw [← hW3]; simp [go_sem]
  have fq2 : W3.frozen? ⟨w2.heap.size, 2, none⟩ = false := by rw [← hW3]; simp [go_sem]
  have fq3 : W3.frozen? ⟨w2.heap.size, 3, none⟩ = false := by rw [← hW3]; simp [go_sem]
  replace fr0 := keep_frozen hb3 (World.block_lt_of_cell? _ _ r0) fr0
  replace fr1 := keep_frozen hb3 (World.block_lt_of_cell? _ _ r1) fr1
  replace fr2 := keep_frozen hb3 (World.block_lt_of_cell? _ _ r2) fr2
  replace fr3 := keep_frozen hb3 (World.block_lt_of_cell? _ _ r3) fr3
  replace a0 := keep_cell hb3 a0
  replace a1 := keep_cell hb3 a1
  replace a2 := keep_cell hb3 a2
  replace a3 := keep_cell hb3 a3
  replace a4 := keep_cell hb3 a4
  replace a5 := keep_cell hb3 a5
  replace a6 := keep_cell hb3 a6
  replace a7 := keep_cell hb3 a7
  replace a8 := keep_cell hb3 a8
  replace a9 := keep_cell hb3 a9
  replace a10 := keep_cell hb3 a10
  replace b0 := keep_cell hb3 b0
  replace b1 := keep_cell hb3 b1
  replace b2 := keep_cell hb3 b2
  replace b3 := keep_cell hb3 b3
  replace r0 := keep_cell hb3 r0
  replace r1 := keep_cell hb3 r1
  replace r2 := keep_cell hb3 r2
  replace r3 := keep_cell hb3 r3
  rw [hW3]
  have HB3 := Lib.hid (HB2.out.trans (hb3.mono HB2.out.size))
  clear hW3 hb3
  go_wp2_with (go_at_call 71; refine (Of_any _ _ _).mono ?_; rintro e w' ⟨rfl, rfl⟩)
  refine (HT.out _ HB3.out).mono ?_
  rintro e w4 ⟨rfl, hb4⟩
  have HB4 := Lib.hid (HB3.out.trans (hb4.mono HB3.out.size))
  replace fr0 := keep_frozen hb4 (World.block_lt_of_cell? _ _ r0) fr0
  replace fr1 := keep_frozen hb4 (World.block_lt_of_cell? _ _ r1) fr1
  replace fr2 := keep_frozen hb4 (World.block_lt_of_cell? _ _ r2) fr2
  replace fr3 := keep_frozen hb4 (World.block_lt_of_cell? _ _ r3) fr3
  replace a0 := keep_cell hb4 a0
  replace a1 := keep_cell hb4 a1
  replace a2 := keep_cell hb4 a2
  replace a3 := keep_cell hb4 a3
  replace a4 := keep_cell hb4 a4
  replace a5 := keep_cell hb4 a5
  replace a6 := keep_cell hb4 a6
  replace a7 := keep_cell hb4 a7
  replace a8 := keep_cell hb4 a8
  replace a9 := keep_cell hb4 a9
  replace a10 := keep_cell hb4 a10
  replace b0 := keep_cell hb4 b0
  replace b1 := keep_cell hb4 b1
  replace b2 := keep_cell hb4 b2
  replace b3 := keep_cell hb4 b3
  replace r0 := keep_cell hb4 r0
  replace r1 := keep_cell hb4 r1
  replace r2 := keep_cell hb4 r2
  replace r3 := keep_cell hb4 r3
  replace fq0 := keep_frozen hb4 (World.block_lt_of_cell? _ _ q0) fq0
  replace fq1 := keep_frozen hb4 (World.block_lt_of_cell? _ _ q1) fq1
  replace fq2 := keep_frozen hb4 (World.block_lt_of_cell? _ _ q2) fq2
  replace fq3 := keep_frozen hb4 (World.block_lt_of_cell? _ _ q3) fq3
  replace q0 := keep_cell hb4 q0
  replace q1 := keep_cell hb4 q1
  replace q2 := keep_cell hb4 q2
  replace q3 := keep_cell hb4 q3
  have hy4 : w2.heap.size < w4.heap.size := World.block_lt_of_cell? _ _ q0
  clear hb4
  go_upto_region 9 with fail
  obtain ⟨W6, hW6⟩ : ∃ W6, setAll w2.heap.size w4 0 [.int .i64 x.k, .int .i64 x.i, .int .u64 x.u, .string x.s] = W6 := ⟨_, rfl⟩
  have hk6 := setAll_cell w2.heap.size [.int .i64 x.k, .int .i64 x.i, .int .u64 x.u, .string x.s] w4 0 (fun i hi => by
    have hi' : i < 4 := hi
    rw [Nat.zero_add]
    match i, hi' with
    | 0, _ => rw [q0]; rfl
    | 1, _ => rw [q1]; rfl
    | 2, _ => rw [q2]; rfl
    | 3, _ => rw [q3]; rfl
    | n + 4, h => omega)
  have hb6 := setAll_below (B := w.heap.size) (w := w) w2.heap.size (by omega) [.int .i64 x.k, .int .i64 x.i, .int .u64 x.u, .string x.s] w4 0 HB4.out
  replace a0 := (setAll_far w2.heap.size (a := ⟨w.heap.size, 0, none⟩) (by simp; omega) [.int .i64 x.k, .int .i64 x.i, .int .u64 x.u, .string x.s] w4 0).trans a0
  replace a1 := (setAll_far w2.heap.size (a := ⟨w.heap.size, 1, none⟩) (by simp; omega) [.int .i64 x.k, .int .i64 x.i, .int .u64 x.u, .string x.s] w4 0).trans a1
  replace a2 := (setAll_far w2.heap.size (a := ⟨w.heap.size, 2, none⟩) (by simp; omega) [.int .i64 x.k, .int .i64 x.i, .int .u64 x.u, .string x.s] w4 0).trans a2
  replace a3 := (setAll_far w2.heap.size (a := ⟨w.heap.size, 3, none⟩) (by simp; omega) [.int .i64 x.k, .int .i64 x.i, .int .u64 x.u, .string x.s] w4 0).trans a3
  replace a4 := (setAll_far w2.heap.size (a := ⟨w.heap.size, 4, none⟩) (by simp; omega) [.int .i64 x.k, .int .i64 x.i, .int .u64 x.u, .string x.s] w4 0).trans a4
  replace a5 := (setAll_far w2.heap.size (a := ⟨w.heap.size, 5, none⟩) (by simp; omega) [.int .i64 x.k, .int .i64 x.i, .int .u64 x.u, .string x.s] w4 0).trans a5
  replace a6 := (setAll_far w2.heap.size (a := ⟨w.heap.size, 6, none⟩) (by simp; omega) [.int .i64 x.k, .int .i64 x.i, .int .u64 x.u, .string x.s] w4 0).trans a6
  replace a7 := (setAll_far w2.heap.size (a := ⟨w.heap.size, 7, none⟩) (by simp; omega) [.int .i64 x.k, .int .i64 x.i, .int .u64 x.u, .string x.s] w4 0).trans a7
  replace a8 := (setAll_far w2.heap.size (a := ⟨w.heap.size, 8, none⟩) (by simp; omega) [.int .i64 x.k, .int .i64 x.i, .int .u64 x.u, .string x.s] w4 0).trans a8
  replace a9 := (setAll_far w2.heap.size (a := ⟨w.heap.size, 9, none⟩) (by simp; omega) [.int .i64 x.k, .int .i64 x.i, .int .u64 x.u, .string x.s] w4 0).trans a9
  replace a10 := (setAll_far w2.heap.size (a := ⟨w.heap.size, 10, none⟩) (by simp; omega) [.int .i64 x.k, .int .i64 x.i, .int .u64 x.u, .string x.s] w4 0).trans a10
  replace b0 := (setAll_far w2.heap.size (a := ⟨w.heap.size + 1, 0, none⟩) (by simp; omega) [.int .i64 x.k, .int .i64 x.i, .int .u64 x.u, .string x.s] w4 0).trans b0
  replace b1 := (setAll_far w2.heap.size (a := ⟨w.heap.size + 1, 1, none⟩) (by simp; omega) [.int .i64 x.k, .int .i64 x.i, .int .u64 x.u, .string x.s] w4 0).trans b1
  replace b2 := (setAll_far w2.heap.size (a := ⟨w.heap.size + 1, 2, none⟩) (by simp; omega) [.int .i64 x.k, .int .i64 x.i, .int .u64 x.u, .string x.s] w4 0).trans b2
  replace b3 := (setAll_far w2.heap.size (a := ⟨w.heap.size + 1, 3, none⟩) (by simp; omega) [.int .i64 x.k, .int .i64 x.i, .int .u64 x.u, .string x.s] w4 0).trans b3
  replace r0 := (setAll_far w2.heap.size (a := ⟨w.heap.size + 1 + 1, 0, none⟩) (by simp; omega) [.int .i64 x.k, .int .i64 x.i, .int .u64 x.u, .string x.s] w4 0).trans r0
  replace r1 := (setAll_far w2.heap.size (a := ⟨w.heap.size + 1 + 1, 1, none⟩) (by simp; omega) [.int .i64 x.k, .int .i64 x.i, .int .u64 x.u, .string x.s] w4 0).trans r1
  replace r2 := (setAll_far w2.heap.size (a := ⟨w.heap.size + 1 + 1, 2, none⟩) (by simp; omega) [.int .i64 x.k, .int .i64 x.i, .int .u64 x.u, .string x.s] w4 0).trans r2
  replace r3 := (setAll_far w2.heap.size (a := ⟨w.heap.size + 1 + 1, 3, none⟩) (by simp; omega) [.int .i64 x.k, .int .i64 x.i, .int .u64 x.u, .string x.s] w4 0).trans r3
  replace fr0 := (setAll_frozen w2.heap.size ⟨w.heap.size + 1 + 1, 0, none⟩ [.int .i64 x.k, .int .i64 x.i, .int .u64 x.u, .string x.s] w4 0).trans fr0
  replace fr1 := (setAll_frozen w2.heap.size ⟨w.heap.size + 1 + 1, 1, none⟩ [.int .i64 x.k, .int .i64 x.i, .int .u64 x.u, .string x.s] w4 0).trans fr1
  replace fr2 := (setAll_frozen w2.heap.size ⟨w.heap.size + 1 + 1, 2, none⟩ [.int .i64 x.k, .int .i64 x.i, .int .u64 x.u, .string x.s] w4 0).trans fr2
  replace fr3 := (setAll_frozen w2.heap.size ⟨w.heap.size + 1 + 1, 3, none⟩ [.int .i64 x.k, .int .i64 x.i, .int .u64 x.u, .string x.s] w4 0).trans fr3
  rw [hW6] at hk6 hb6 a0 a1 a2 a3 a4 a5 a6 a7 a8 a9 a10 b0 b1 b2 b3 r0 r1 r2 r3 fr0 fr1 fr2 fr3
  clear q0 q1 q2 q3 fq0 fq1 fq2 fq3
  have q0 : W6.cell? ⟨w2.heap.size, 0, none⟩ = some (.int .i64 x.k) := hk6 0 (by simp)
  have q1 : W6.cell? ⟨w2.heap.size, 1, none⟩ = some (.int .i64 x.i) := hk6 1 (by simp)
  have q2 : W6.cell? ⟨w2.heap.size, 2, none⟩ = some (.int .u64 x.u) := hk6 2 (by simp)
  have q3 : W6.cell? ⟨w2.heap.size, 3, none⟩ = some (.string x.s) := hk6 3 (by simp)
  have HB6 := Lib.hid hb6
  clear hk6 hb6
  change Code.wp _ _ _ _ (setAll w2.heap.size w4 0 [.int .i64 x.k, .int .i64 x.i, .int .u64 x.u, .string x.s])
  rw [hW6]
  clear hW6 hy4
  have hyz : w.heap.size + 1 + 1 < W6.heap.size := World.block_lt_of_cell? _ _ r0
  clear hy0 hy1 hy2
  go_wp2_with (go_at_call 71; refine (Of_any _ _ _).mono ?_; rintro e w' ⟨rfl, rfl⟩)
  refine bodyPost_ret (v := .tuple #[.agg #[.int .i64 0, .int .i64 0, .int .u64 0, .string ⟨#[]⟩], .iface 147 (.pointer (some ⟨W6.heap.size, 0, none⟩))]) (by simp [results, Tryz.results59, go_sem, r0, r1, r2, r3, hyz]) rfl ⟨W6.heap.size, rfl, by omega, ?_, ?_⟩
  · simp [go_sem]
  · repeat' first | exact HB6.out | (refine Below.setCell ?_ (by simp; try omega) _) | (refine Below.alloc ?_ (by have := HB6.out.size; simp; try omega) _)
end Go.Proofs.YtmgeefhacnadcaaGreatDoor
namespace Go.Proofs.YtmgeefhacnadcaaGreatDoor
open Go.RowKit

set_option maxRecDepth 100000 in
set_option maxHeartbeats 4000000 in
theorem cconv_unfit2 (c d : Col) (v : Vl) (w : World) (hE : Env w) (n1 : c.n.size ≤ 9223372036854775807) (n2 : d.n.size ≤ 9223372036854775807) (f g : Nat) (hm : fitsN c v = 0) (hk : v.k ≠ 0) (x : Vl) (m2 : Int) (hm2 : fitsN d x = m2) (h2 : m2 ≠ 0) (hcf : ∀ (a : Array Value) W, (callFunc f a).run Tryz.prog W = .ok (.enter f a) W) (hT : ∀ W, Below w.heap.size w W → Calls Tryz.prog f #[.agg #[.int .i64 v.k, .int .i64 v.i, .int .u64 v.u, .string v.s]] W fun e w' => e = .returned (.tuple #[.agg #[.int .i64 x.k, .int .i64 x.i, .int .u64 x.u, .string x.s], .bool true]) ∧ Below W.heap.size W w') :
    Calls Tryz.prog 59 #[.agg #[.string d.n, .int .i64 d.t, .int .i64 d.z, .bool d.u, .string c.n, .int .i64 c.t, .int .i64 c.z, .bool c.u, .func (.func f) #[] #[], .func (.func g) #[] #[], .bool true], .agg #[.int .i64 v.k, .int .i64 v.i, .int .u64 v.u, .string v.s]] w fun e w' => ∃ b, e = .returned (.tuple #[.agg #[.int .i64 0, .int .i64 0, .int .u64 0, .string ⟨#[]⟩], .iface 147 (.pointer (some ⟨b, 0, none⟩))]) ∧ w.heap.size ≤ b ∧ w'.cell? ⟨b, 1, none⟩ = some (.int .i64 161) ∧ Below w.heap.size w w' := by
  have HF : Hid (∀ (x : Col) (y : Vl) W, x.n.size ≤ 9223372036854775807 → Below w.heap.size w W → Calls Tryz.prog 21 #[.agg #[.string x.n, .int .i64 x.t, .int .i64 x.z, .bool x.u], .agg #[.int .i64 y.k, .int .i64 y.i, .int .u64 y.u, .string y.s]] W fun e w' => e = .returned (.int .i64 (fitsN x y)) ∧ Below W.heap.size W w') := Lib.hid (fun x y W h hb => Fits_any x y W (hE.keep hb).et h)
  clear hE
  have HM1 := Lib.hid hm
  have hkb : (v.k != 0) = true := by simpa using hk
  have HT := Lib.hid hT
  have HM2 := Lib.hid hm2
  have hmb : (m2 != 0) = true := by simpa using h2
  clear hm hk hT hm2 h2
  go_enter Tryz.func59, Tryz.ntmps59
  go_upto_region 1 with fail
  obtain ⟨W1, hW1⟩ : ∃ W1, ((w.alloc (.cells #[.string d.n, .int .i64 d.t, .int .i64 d.z, .bool d.u, .string c.n, .int .i64 c.t, .int .i64 c.z, .bool c.u, .func (.func f) #[] #[], .func (.func g) #[] #[], .bool true] 80)).alloc (.cells #[.int .i64 v.k, .int .i64 v.i, .int .u64 v.u, .string v.s] 28)).alloc (.cells #[.int .i64 0, .int .i64 0, .int .u64 0, .string ⟨#[]⟩] 28) = W1 := ⟨_, rfl⟩
  have hb1 : Below w.heap.size w W1 := by rw [← hW1]; exact (((Below.refl _ _).alloc (Nat.le_refl _) _).alloc (by simp) _).alloc (by simp; omega) _
  have a0 : W1.cell? ⟨w.heap.size, 0, none⟩ = some (.string d.n) := by rw [← hW1]; simp [go_sem]
  have a1 : W1.cell? ⟨w.heap.size, 1, none⟩ = some (.int .i64 d.t) := by rw [← hW1]; simp [go_sem]
  have a2 : W1.cell? ⟨w.heap.size, 2, none⟩ = some (.int .i64 d.z) := by rw [← hW1]; simp [go_sem]
  have a3 : W1.cell? ⟨w.heap.size, 3, none⟩ = some (.bool d.u) := by rw [← hW1]; simp [go_sem]
  have a4 : W1.cell? ⟨w.heap.size, 4, none⟩ = some (.string c.n) := by rw [← hW1]; simp [go_sem]
  have a5 : W1.cell? ⟨w.heap.size, 5, none⟩ = some (.int .i64 c.t) := by rw [← hW1]; simp [go_sem]
  have a6 : W1.cell? ⟨w.heap.size, 6, none⟩ = some (.int .i64 c.z) := by rw [← hW1]; simp [go_sem]
  have a7 : W1.cell? ⟨w.heap.size, 7, none⟩ = some (.bool c.u) := by rw [← hW1]; simp [go_sem]
  have a8 : W1.cell? ⟨w.heap.size, 8, none⟩ = some (.func (.func f) #[] #[]) := by rw [← hW1]; simp [go_sem]
  have a9 : W1.cell? ⟨w.heap.size, 9, none⟩ = some (.func (.func g) #[] #[]) := by rw [← hW1]; simp [go_sem]
  have a10 : W1.cell? ⟨w.heap.size, 10, none⟩ = some (.bool true) := by rw [← hW1]; simp [go_sem]
  have b0 : W1.cell? ⟨w.heap.size + 1, 0, none⟩ = some (.int .i64 v.k) := by rw [← hW1]; simp [go_sem]
  have b1 : W1.cell? ⟨w.heap.size + 1, 1, none⟩ = some (.int .i64 v.i) := by rw [← hW1]; simp [go_sem]
  have b2 : W1.cell? ⟨w.heap.size + 1, 2, none⟩ = some (.int .u64 v.u) := by rw [← hW1]; simp [go_sem]
  have b3 : W1.cell? ⟨w.heap.size + 1, 3, none⟩ = some (.string v.s) := by rw [← hW1]; simp [go_sem]
  have r0 : W1.cell? ⟨w.heap.size + 1 + 1, 0, none⟩ = some (.int .i64 0) := by rw [← hW1]; simp [go_sem]
  have r1 : W1.cell? ⟨w.heap.size + 1 + 1, 1, none⟩ = some (.int .i64 0) := by rw [← hW1]; simp [go_sem]
  have r2 : W1.cell? ⟨w.heap.size + 1 + 1, 2, none⟩ = some (.int .u64 0) := by rw [← hW1]; simp [go_sem]
  have r3 : W1.cell? ⟨w.heap.size + 1 + 1, 3, none⟩ = some (.string ⟨#[]⟩) := by rw [← hW1]; simp [go_sem]
  have fr0 : W1.frozen? ⟨w.heap.size + 1 + 1, 0, none⟩ = false := by rw [← hW1]; simp [go_sem]
  have fr1 : W1.frozen? ⟨w.heap.size + 1 + 1, 1, none⟩ = false := by rw [← hW1]; simp [go_sem]
  have fr2 : W1.frozen? ⟨w.heap.size + 1 + 1, 2, none⟩ = false := by rw [← hW1]; simp [go_sem]
  have fr3 : W1.frozen? ⟨w.heap.size + 1 + 1, 3, none⟩ = false := by rw [← hW1]; simp [go_sem]
  rw [hW1]
  have HB1 := Lib.hid hb1
  clear hW1 hb1
  go_wp2_with (go_at_call 71; refine (Of_any _ _ _).mono ?_; rintro e w' ⟨rfl, rfl⟩)
  refine (HF.out c v _ n1 HB1.out).mono ?_
  rintro e w2 ⟨rfl, hb2⟩
  rw [HM1.out]
  have HB2 := Lib.hid (HB1.out.trans (hb2.mono HB1.out.size))
  replace fr0 := keep_frozen hb2 (World.block_lt_of_cell? _ _ r0) fr0
  replace fr1 := keep_frozen hb2 (World.block_lt_of_cell? _ _ r1) fr1
  replace fr2 := keep_frozen hb2 (World.block_lt_of_cell? _ _ r2) fr2
  replace fr3 := keep_frozen hb2 (World.block_lt_of_cell? _ _ r3) fr3
  replace a0 := keep_cell hb2 a0
  replace a1 := keep_cell hb2 a1
  replace a2 := keep_cell hb2 a2
  replace a3 := keep_cell hb2 a3
  replace a4 := keep_cell hb2 a4
  replace a5 := keep_cell hb2 a5
  replace a6 := keep_cell hb2 a6
  replace a7 := keep_cell hb2 a7
  replace a8 := keep_cell hb2 a8
  replace a9 := keep_cell hb2 a9
  replace a10 := keep_cell hb2 a10
  replace b0 := keep_cell hb2 b0
  replace b1 := keep_cell hb2 b1
  replace b2 := keep_cell hb2 b2
  replace b3 := keep_cell hb2 b3
  replace r0 := keep_cell hb2 r0
  replace r1 := keep_cell hb2 r1
  replace r2 := keep_cell hb2 r2
  replace r3 := keep_cell hb2 r3
  have hy2 : w.heap.size + 1 + 1 < w2.heap.size := World.block_lt_of_cell? _ _ r0
  have hy1 : w.heap.size + 1 < w2.heap.size := by omega
  have hy0 : w.heap.size < w2.heap.size := by omega
  clear hb2
  go_upto_region 7 with fail
  obtain ⟨W3, hW3⟩ : ∃ W3, w2.alloc (.cells #[.int .i64 v.k, .int .i64 v.i, .int .u64 v.u, .string v.s] 28) = W3 := ⟨_, rfl⟩
  have hb3 : Below w2.heap.size w2 W3 := by rw [← hW3]; exact (Below.refl _ _).alloc (Nat.le_refl _) _
  have q0 : W3.cell? ⟨w2.heap.size, 0, none⟩ = some (.int .i64 v.k) := by rw [← hW3]; simp [go_sem]
  have q1 : W3.cell? ⟨w2.heap.size, 1, none⟩ = some (.int .i64 v.i) := by rw [← hW3]; simp [go_sem]
  have q2 : W3.cell? ⟨w2.heap.size, 2, none⟩ = some (.int .u64 v.u) := by rw [← hW3]; simp [go_sem]
  have q3 : W3.cell? ⟨w2.heap.size, 3, none⟩ = some (.string v.s) := by rw [← hW3]; simp [go_sem]
  have fq0 : W3.frozen? ⟨w2.heap.size, 0, none⟩ = false := by rw [← hW3]; simp [go_sem]
  have fq1 : W3.frozen? ⟨w2.heap.size, 1, none⟩ = false := by rw [← hW3]; simp [go_sem]
  have fq2 : W3.frozen? ⟨w2.heap.size, 2, none⟩ = false := by rw [← hW3]; simp [go_sem]
  have fq3 : W3.frozen? ⟨w2.heap.size, 3, none⟩ = false := by rw [← hW3]; simp [go_sem]
  replace fr0 := keep_frozen hb3 (World.block_lt_of_cell? _ _ r0) fr0
  replace fr1 := keep_frozen hb3 (World.block_lt_of_cell? _ _ r1) fr1
  replace fr2 := keep_frozen hb3 (World.block_lt_of_cell? _ _ r2) fr2
  replace fr3 := keep_frozen hb3 (World.block_lt_of_cell? _ _ r3) fr3
  replace a0 := keep_cell hb3 a0
  replace a1 := keep_cell hb3 a1
  replace a2 := keep_cell hb3 a2
  replace a3 := keep_cell hb3 a3
  replace a4 := keep_cell hb3 a4
  replace a5 := keep_cell hb3 a5
  replace a6 := keep_cell hb3 a6
  replace a7 := keep_cell hb3 a7
  replace a8 := keep_cell hb3 a8
  replace a9 := keep_cell hb3 a9
  replace a10 := keep_cell hb3 a10
  replace b0 := keep_cell hb3 b0
  replace b1 := keep_cell hb3 b1
  replace b2 := keep_cell hb3 b2
  replace b3 := keep_cell hb3 b3
  replace r0 := keep_cell hb3 r0
  replace r1 := keep_cell hb3 r1
  replace r2 := keep_cell hb3 r2
  replace r3 := keep_cell hb3 r3
  rw [hW3]
  have HB3 := Lib.hid (HB2.out.trans (hb3.mono HB2.out.size))
  clear hW3 hb3
  go_wp2_with (go_at_call 71; refine (Of_any _ _ _).mono ?_; rintro e w' ⟨rfl, rfl⟩)
  refine (HT.out _ HB3.out).mono ?_
  rintro e w4 ⟨rfl, hb4⟩
  have HB4 := Lib.hid (HB3.out.trans (hb4.mono HB3.out.size))
  replace fr0 := keep_frozen hb4 (World.block_lt_of_cell? _ _ r0) fr0
  replace fr1 := keep_frozen hb4 (World.block_lt_of_cell? _ _ r1) fr1
  replace fr2 := keep_frozen hb4 (World.block_lt_of_cell? _ _ r2) fr2
  replace fr3 := keep_frozen hb4 (World.block_lt_of_cell? _ _ r3) fr3
  replace a0 := keep_cell hb4 a0
  replace a1 := keep_cell hb4 a1
  replace a2 := keep_cell hb4 a2
  replace a3 := keep_cell hb4 a3
  replace a4 := keep_cell hb4 a4
  replace a5 := keep_cell hb4 a5
  replace a6 := keep_cell hb4 a6
  replace a7 := keep_cell hb4 a7
  replace a8 := keep_cell hb4 a8
  replace a9 := keep_cell hb4 a9
  replace a10 := keep_cell hb4 a10
  replace b0 := keep_cell hb4 b0
  replace b1 := keep_cell hb4 b1
  replace b2 := keep_cell hb4 b2
  replace b3 := keep_cell hb4 b3
  replace r0 := keep_cell hb4 r0
  replace r1 := keep_cell hb4 r1
  replace r2 := keep_cell hb4 r2
  replace r3 := keep_cell hb4 r3
  replace fq0 := keep_frozen hb4 (World.block_lt_of_cell? _ _ q0) fq0
  replace fq1 := keep_frozen hb4 (World.block_lt_of_cell? _ _ q1) fq1
  replace fq2 := keep_frozen hb4 (World.block_lt_of_cell? _ _ q2) fq2
  replace fq3 := keep_frozen hb4 (World.block_lt_of_cell? _ _ q3) fq3
  replace q0 := keep_cell hb4 q0
  replace q1 := keep_cell hb4 q1
  replace q2 := keep_cell hb4 q2
  replace q3 := keep_cell hb4 q3
  have hy4 : w2.heap.size < w4.heap.size := World.block_lt_of_cell? _ _ q0
  clear hb4
  go_upto_region 9 with fail
  obtain ⟨W6, hW6⟩ : ∃ W6, setAll w2.heap.size w4 0 [.int .i64 x.k, .int .i64 x.i, .int .u64 x.u, .string x.s] = W6 := ⟨_, rfl⟩
  have hk6 := setAll_cell w2.heap.size [.int .i64 x.k, .int .i64 x.i, .int .u64 x.u, .string x.s] w4 0 (fun i hi => by
    have hi' : i < 4 := hi
    rw [Nat.zero_add]
    match i, hi' with
    | 0, _ => rw [q0]; rfl
    | 1, _ => rw [q1]; rfl
    | 2, _ => rw [q2]; rfl
    | 3, _ => rw [q3]; rfl
    | n + 4, h => omega)
  have hb6 := setAll_below (B := w.heap.size) (w := w) w2.heap.size (by omega) [.int .i64 x.k, .int .i64 x.i, .int .u64 x.u, .string x.s] w4 0 HB4.out
  replace a0 := (setAll_far w2.heap.size (a := ⟨w.heap.size, 0, none⟩) (by simp; omega) [.int .i64 x.k, .int .i64 x.i, .int .u64 x.u, .string x.s] w4 0).trans a0
  replace a1 := (setAll_far w2.heap.size (a := ⟨w.heap.size, 1, none⟩) (by simp; omega) [.int .i64 x.k, .int .i64 x.i, .int .u64 x.u, .string x.s] w4 0).trans a1
  replace a2 := (setAll_far w2.heap.size (a := ⟨w.heap.size, 2, none⟩) (by simp; omega) [.int .i64 x.k, .int .i64 x.i, .int .u64 x.u, .string x.s] w4 0).trans a2
  replace a3 := (setAll_far w2.heap.size (a := ⟨w.heap.size, 3, none⟩) (by simp; omega) [.int .i64 x.k, .int .i64 x.i, .int .u64 x.u, .string x.s] w4 0).trans a3
  replace a4 := (setAll_far w2.heap.size (a := ⟨w.heap.size, 4, none⟩) (by simp; omega) [.int .i64 x.k, .int .i64 x.i, .int .u64 x.u, .string x.s] w4 0).trans a4
  replace a5 := (setAll_far w2.heap.size (a := ⟨w.heap.size, 5, none⟩) (by simp; omega) [.int .i64 x.k, .int .i64 x.i, .int .u64 x.u, .string x.s] w4 0).trans a5
  replace a6 := (setAll_far w2.heap.size (a := ⟨w.heap.size, 6, none⟩) (by simp; omega) [.int .i64 x.k, .int .i64 x.i, .int .u64 x.u, .string x.s] w4 0).trans a6
  replace a7 := (setAll_far w2.heap.size (a := ⟨w.heap.size, 7, none⟩) (by simp; omega) [.int .i64 x.k, .int .i64 x.i, .int .u64 x.u, .string x.s] w4 0).trans a7
  replace a8 := (setAll_far w2.heap.size (a := ⟨w.heap.size, 8, none⟩) (by simp; omega) [.int .i64 x.k, .int .i64 x.i, .int .u64 x.u, .string x.s] w4 0).trans a8
  replace a9 := (setAll_far w2.heap.size (a := ⟨w.heap.size, 9, none⟩) (by simp; omega) [.int .i64 x.k, .int .i64 x.i, .int .u64 x.u, .string x.s] w4 0).trans a9
  replace a10 := (setAll_far w2.heap.size (a := ⟨w.heap.size, 10, none⟩) (by simp; omega) [.int .i64 x.k, .int .i64 x.i, .int .u64 x.u, .string x.s] w4 0).trans a10
  replace b0 := (setAll_far w2.heap.size (a := ⟨w.heap.size + 1, 0, none⟩) (by simp; omega) [.int .i64 x.k, .int .i64 x.i, .int .u64 x.u, .string x.s] w4 0).trans b0
  replace b1 := (setAll_far w2.heap.size (a := ⟨w.heap.size + 1, 1, none⟩) (by simp; omega) [.int .i64 x.k, .int .i64 x.i, .int .u64 x.u, .string x.s] w4 0).trans b1
  replace b2 := (setAll_far w2.heap.size (a := ⟨w.heap.size + 1, 2, none⟩) (by simp; omega) [.int .i64 x.k, .int .i64 x.i, .int .u64 x.u, .string x.s] w4 0).trans b2
  replace b3 := (setAll_far w2.heap.size (a := ⟨w.heap.size + 1, 3, none⟩) (by simp; omega) [.int .i64 x.k, .int .i64 x.i, .int .u64 x.u, .string x.s] w4 0).trans b3
  replace r0 := (setAll_far w2.heap.size (a := ⟨w.heap.size + 1 + 1, 0, none⟩) (by simp; omega) [.int .i64 x.k, .int .i64 x.i, .int .u64 x.u, .string x.s] w4 0).trans r0
  replace r1 := (setAll_far w2.heap.size (a := ⟨w.heap.size + 1 + 1, 1, none⟩) (by simp; omega) [.int .i64 x.k, .int .i64 x.i, .int .u64 x.u, .string x.s] w4 0).trans r1
  replace r2 := (setAll_far w2.heap.size (a := ⟨w.heap.size + 1 + 1, 2, none⟩) (by simp; omega) [.int .i64 x.k, .int .i64 x.i, .int .u64 x.u, .string x.s] w4 0).trans r2
  replace r3 := (setAll_far w2.heap.size (a := ⟨w.heap.size + 1 + 1, 3, none⟩) (by simp; omega) [.int .i64 x.k, .int .i64 x.i, .int .u64 x.u, .string x.s] w4 0).trans r3
  replace fr0 := (setAll_frozen w2.heap.size ⟨w.heap.size + 1 + 1, 0, none⟩ [.int .i64 x.k, .int .i64 x.i, .int .u64 x.u, .string x.s] w4 0).trans fr0
  replace fr1 := (setAll_frozen w2.heap.size ⟨w.heap.size + 1 + 1, 1, none⟩ [.int .i64 x.k, .int .i64 x.i, .int .u64 x.u, .string x.s] w4 0).trans fr1
  replace fr2 := (setAll_frozen w2.heap.size ⟨w.heap.size + 1 + 1, 2, none⟩ [.int .i64 x.k, .int .i64 x.i, .int .u64 x.u, .string x.s] w4 0).trans fr2
  replace fr3 := (setAll_frozen w2.heap.size ⟨w.heap.size + 1 + 1, 3, none⟩ [.int .i64 x.k, .int .i64 x.i, .int .u64 x.u, .string x.s] w4 0).trans fr3
  rw [hW6] at hk6 hb6 a0 a1 a2 a3 a4 a5 a6 a7 a8 a9 a10 b0 b1 b2 b3 r0 r1 r2 r3 fr0 fr1 fr2 fr3
  clear q0 q1 q2 q3 fq0 fq1 fq2 fq3
  have q0 : W6.cell? ⟨w2.heap.size, 0, none⟩ = some (.int .i64 x.k) := hk6 0 (by simp)
  have q1 : W6.cell? ⟨w2.heap.size, 1, none⟩ = some (.int .i64 x.i) := hk6 1 (by simp)
  have q2 : W6.cell? ⟨w2.heap.size, 2, none⟩ = some (.int .u64 x.u) := hk6 2 (by simp)
  have q3 : W6.cell? ⟨w2.heap.size, 3, none⟩ = some (.string x.s) := hk6 3 (by simp)
  have HB6 := Lib.hid hb6
  clear hk6 hb6
  change Code.wp _ _ _ _ (setAll w2.heap.size w4 0 [.int .i64 x.k, .int .i64 x.i, .int .u64 x.u, .string x.s])
  rw [hW6]
  clear hW6 hy4
  go_wp2_with (go_at_call 71; refine (Of_any _ _ _).mono ?_; rintro e w' ⟨rfl, rfl⟩)
  refine (HF.out d x _ n2 HB6.out).mono ?_
  rintro e w5 ⟨rfl, hb5⟩
  rw [HM2.out]
  have HB5 := Lib.hid (HB6.out.trans (hb5.mono HB6.out.size))
  replace fr0 := keep_frozen hb5 (World.block_lt_of_cell? _ _ r0) fr0
  replace fr1 := keep_frozen hb5 (World.block_lt_of_cell? _ _ r1) fr1
  replace fr2 := keep_frozen hb5 (World.block_lt_of_cell? _ _ r2) fr2
  replace fr3 := keep_frozen hb5 (World.block_lt_of_cell? _ _ r3) fr3
  replace a0 := keep_cell hb5 a0
  replace a1 := keep_cell hb5 a1
  replace a2 := keep_cell hb5 a2
  replace a3 := keep_cell hb5 a3
  replace a4 := keep_cell hb5 a4
  replace a5 := keep_cell hb5 a5
  replace a6 := keep_cell hb5 a6
  replace a7 := keep_cell hb5 a7
  replace a8 := keep_cell hb5 a8
  replace a9 := keep_cell hb5 a9
  replace a10 := keep_cell hb5 a10
  replace b0 := keep_cell hb5 b0
  replace b1 := keep_cell hb5 b1
  replace b2 := keep_cell hb5 b2
  replace b3 := keep_cell hb5 b3
  replace r0 := keep_cell hb5 r0
  replace r1 := keep_cell hb5 r1
  replace r2 := keep_cell hb5 r2
  replace r3 := keep_cell hb5 r3
  replace q0 := keep_cell hb5 q0
  replace q1 := keep_cell hb5 q1
  replace q2 := keep_cell hb5 q2
  replace q3 := keep_cell hb5 q3
  have hyz : w.heap.size + 1 + 1 < w5.heap.size := World.block_lt_of_cell? _ _ r0
  clear hb5 hy0 hy1 hy2
  go_wp2_with (go_at_call 71; refine (Of_any _ _ _).mono ?_; rintro e w' ⟨rfl, rfl⟩)
  refine bodyPost_ret (v := .tuple #[.agg #[.int .i64 0, .int .i64 0, .int .u64 0, .string ⟨#[]⟩], .iface 147 (.pointer (some ⟨w5.heap.size, 0, none⟩))]) (by simp [results, Tryz.results59, go_sem, r0, r1, r2, r3, hyz]) rfl ⟨w5.heap.size, rfl, by omega, ?_, ?_⟩
  · simp [go_sem]
  · repeat' first | exact HB5.out | (refine Below.setCell ?_ (by simp; try omega) _) | (refine Below.alloc ?_ (by have := HB5.out.size; simp; try omega) _)
end Go.Proofs.YtmgeefhacnadcaaGreatDoor
namespace Go.Proofs.YtmgeefhacnadcaaGreatDoor
open Go.RowKit

set_option maxRecDepth 100000 in
set_option maxHeartbeats 4000000 in
theorem cconv_turned (c d : Col) (v : Vl) (w : World) (hE : Env w) (n1 : c.n.size ≤ 9223372036854775807) (n2 : d.n.size ≤ 9223372036854775807) (f g : Nat) (hm : fitsN c v = 0) (hk : v.k ≠ 0) (x : Vl) (m2 : Int) (hm2 : fitsN d x = m2) (h2 : m2 = 0) (hcf : ∀ (a : Array Value) W, (callFunc f a).run Tryz.prog W = .ok (.enter f a) W) (hT : ∀ W, Below w.heap.size w W → Calls Tryz.prog f #[.agg #[.int .i64 v.k, .int .i64 v.i, .int .u64 v.u, .string v.s]] W fun e w' => e = .returned (.tuple #[.agg #[.int .i64 x.k, .int .i64 x.i, .int .u64 x.u, .string x.s], .bool true]) ∧ Below W.heap.size W w') :
    Calls Tryz.prog 59 #[.agg #[.string d.n, .int .i64 d.t, .int .i64 d.z, .bool d.u, .string c.n, .int .i64 c.t, .int .i64 c.z, .bool c.u, .func (.func f) #[] #[], .func (.func g) #[] #[], .bool true], .agg #[.int .i64 v.k, .int .i64 v.i, .int .u64 v.u, .string v.s]] w fun e w' => e = .returned (.tuple #[.agg #[.int .i64 x.k, .int .i64 x.i, .int .u64 x.u, .string x.s], .nilIface]) ∧ Below w.heap.size w w' := by
  have HF : Hid (∀ (x : Col) (y : Vl) W, x.n.size ≤ 9223372036854775807 → Below w.heap.size w W → Calls Tryz.prog 21 #[.agg #[.string x.n, .int .i64 x.t, .int .i64 x.z, .bool x.u], .agg #[.int .i64 y.k, .int .i64 y.i, .int .u64 y.u, .string y.s]] W fun e w' => e = .returned (.int .i64 (fitsN x y)) ∧ Below W.heap.size W w') := Lib.hid (fun x y W h hb => Fits_any x y W (hE.keep hb).et h)
  clear hE
  have HM1 := Lib.hid hm
  have hkb : (v.k != 0) = true := by simpa using hk
  have HT := Lib.hid hT
  have HM2 := Lib.hid hm2
  have hmb : (m2 != 0) = false := by simp [h2]
  clear hm hk hT hm2 h2
  go_enter Tryz.func59, Tryz.ntmps59
  go_upto_region 1 with fail
  obtain ⟨W1, hW1⟩ : ∃ W1, ((w.alloc (.cells #[.string d.n, .int .i64 d.t, .int .i64 d.z, .bool d.u, .string c.n, .int .i64 c.t, .int .i64 c.z, .bool c.u, .func (.func f) #[] #[], .func (.func g) #[] #[], .bool true] 80)).alloc (.cells #[.int .i64 v.k, .int .i64 v.i, .int .u64 v.u, .string v.s] 28)).alloc (.cells #[.int .i64 0, .int .i64 0, .int .u64 0, .string ⟨#[]⟩] 28) = W1 := ⟨_, rfl⟩
  have hb1 : Below w.heap.size w W1 := by rw [← hW1]; exact (((Below.refl _ _).alloc (Nat.le_refl _) _).alloc (by simp) _).alloc (by simp; omega) _
  have a0 : W1.cell? ⟨w.heap.size, 0, none⟩ = some (.string d.n) := by rw [← hW1]; simp [go_sem]
  have a1 : W1.cell? ⟨w.heap.size, 1, none⟩ = some (.int .i64 d.t) := by rw [← hW1]; simp [go_sem]
  have a2 : W1.cell? ⟨w.heap.size, 2, none⟩ = some (.int .i64 d.z) := by rw [← hW1]; simp [go_sem]
  have a3 : W1.cell? ⟨w.heap.size, 3, none⟩ = some (.bool d.u) := by rw [← hW1]; simp [go_sem]
  have a4 : W1.cell? ⟨w.heap.size, 4, none⟩ = some (.string c.n) := by rw [← hW1]; simp [go_sem]
  have a5 : W1.cell? ⟨w.heap.size, 5, none⟩ = some (.int .i64 c.t) := by rw [← hW1]; simp [go_sem]
  have a6 : W1.cell? ⟨w.heap.size, 6, none⟩ = some (.int .i64 c.z) := by rw [← hW1]; simp [go_sem]
  have a7 : W1.cell? ⟨w.heap.size, 7, none⟩ = some (.bool c.u) := by rw [← hW1]; simp [go_sem]
  have a8 : W1.cell? ⟨w.heap.size, 8, none⟩ = some (.func (.func f) #[] #[]) := by rw [← hW1]; simp [go_sem]
  have a9 : W1.cell? ⟨w.heap.size, 9, none⟩ = some (.func (.func g) #[] #[]) := by rw [← hW1]; simp [go_sem]
  have a10 : W1.cell? ⟨w.heap.size, 10, none⟩ = some (.bool true) := by rw [← hW1]; simp [go_sem]
  have b0 : W1.cell? ⟨w.heap.size + 1, 0, none⟩ = some (.int .i64 v.k) := by rw [← hW1]; simp [go_sem]
  have b1 : W1.cell? ⟨w.heap.size + 1, 1, none⟩ = some (.int .i64 v.i) := by rw [← hW1]; simp [go_sem]
  have b2 : W1.cell? ⟨w.heap.size + 1, 2, none⟩ = some (.int .u64 v.u) := by rw [← hW1]; simp [go_sem]
  have b3 : W1.cell? ⟨w.heap.size + 1, 3, none⟩ = some (.string v.s) := by rw [← hW1]; simp [go_sem]
  have r0 : W1.cell? ⟨w.heap.size + 1 + 1, 0, none⟩ = some (.int .i64 0) := by rw [← hW1]; simp [go_sem]
  have r1 : W1.cell? ⟨w.heap.size + 1 + 1, 1, none⟩ = some (.int .i64 0) := by rw [← hW1]; simp [go_sem]
  have r2 : W1.cell? ⟨w.heap.size + 1 + 1, 2, none⟩ = some (.int .u64 0) := by rw [← hW1]; simp [go_sem]
  have r3 : W1.cell? ⟨w.heap.size + 1 + 1, 3, none⟩ = some (.string ⟨#[]⟩) := by rw [← hW1]; simp [go_sem]
  have fr0 : W1.frozen? ⟨w.heap.size + 1 + 1, 0, none⟩ = false := by rw [← hW1]; simp [go_sem]
  have fr1 : W1.frozen? ⟨w.heap.size + 1 + 1, 1, none⟩ = false := by rw [← hW1]; simp [go_sem]
  have fr2 : W1.frozen? ⟨w.heap.size + 1 + 1, 2, none⟩ = false := by rw [← hW1]; simp [go_sem]
  have fr3 : W1.frozen? ⟨w.heap.size + 1 + 1, 3, none⟩ = false := by rw [← hW1]; simp [go_sem]
  rw [hW1]
  have HB1 := Lib.hid hb1
  clear hW1 hb1
  go_wp2_with (go_at_call 71; refine (Of_any _ _ _).mono ?_; rintro e w' ⟨rfl, rfl⟩)
  refine (HF.out c v _ n1 HB1.out).mono ?_
  rintro e w2 ⟨rfl, hb2⟩
  rw [HM1.out]
  have HB2 := Lib.hid (HB1.out.trans (hb2.mono HB1.out.size))
  replace fr0 := keep_frozen hb2 (World.block_lt_of_cell? _ _ r0) fr0
  replace fr1 := keep_frozen hb2 (World.block_lt_of_cell? _ _ r1) fr1
  replace fr2 := keep_frozen hb2 (World.block_lt_of_cell? _ _ r2) fr2
  replace fr3 := keep_frozen hb2 (World.block_lt_of_cell? _ _ r3) fr3
  replace a0 := keep_cell hb2 a0
  replace a1 := keep_cell hb2 a1
  replace a2 := keep_cell hb2 a2
  replace a3 := keep_cell hb2 a3
  replace a4 := keep_cell hb2 a4
  replace a5 := keep_cell hb2 a5
  replace a6 := keep_cell hb2 a6
  replace a7 := keep_cell hb2 a7
  replace a8 := keep_cell hb2 a8
  replace a9 := keep_cell hb2 a9
  replace a10 := keep_cell hb2 a10
  replace b0 := keep_cell hb2 b0
  replace b1 := keep_cell hb2 b1
  replace b2 := keep_cell hb2 b2
  replace b3 := keep_cell hb2 b3
  replace r0 := keep_cell hb2 r0
  replace r1 := keep_cell hb2 r1
  replace r2 := keep_cell hb2 r2
  replace r3 := keep_cell hb2 r3
  have hy2 : w.heap.size + 1 + 1 < w2.heap.size := World.block_lt_of_cell? _ _ r0
  have hy1 : w.heap.size + 1 < w2.heap.size := by omega
  have hy0 : w.heap.size < w2.heap.size := by omega
  clear hb2
  go_upto_region 7 with fail
  obtain ⟨W3, hW3⟩ : ∃ W3, w2.alloc (.cells #[.int .i64 v.k, .int .i64 v.i, .int .u64 v.u, .string v.s] 28) = W3 := ⟨_, rfl⟩
  have hb3 : Below w2.heap.size w2 W3 := by rw [← hW3]; exact (Below.refl _ _).alloc (Nat.le_refl _) _
  have q0 : W3.cell? ⟨w2.heap.size, 0, none⟩ = some (.int .i64 v.k) := by rw [← hW3]; simp [go_sem]
  have q1 : W3.cell? ⟨w2.heap.size, 1, none⟩ = some (.int .i64 v.i) := by rw [← hW3]; simp [go_sem]
  have q2 : W3.cell? ⟨w2.heap.size, 2, none⟩ = some (.int .u64 v.u) := by rw [← hW3]; simp [go_sem]
  have q3 : W3.cell? ⟨w2.heap.size, 3, none⟩ = some (.string v.s) := by rw [← hW3]; simp [go_sem]
  have fq0 : W3.frozen? ⟨w2.heap.size, 0, none⟩ = false := by rw [← hW3]; simp [go_sem]
  have fq1 : W3.frozen? ⟨w2.heap.size, 1, none⟩ = false := by rw [← hW3]; simp [go_sem]
  have fq2 : W3.frozen? ⟨w2.heap.size, 2, none⟩ = false := by rw [← hW3]; simp [go_sem]
  have fq3 : W3.frozen? ⟨w2.heap.size, 3, none⟩ = false := by rw [← hW3]; simp [go_sem]
  replace fr0 := keep_frozen hb3 (World.block_lt_of_cell? _ _ r0) fr0
  replace fr1 := keep_frozen hb3 (World.block_lt_of_cell? _ _ r1) fr1
  replace fr2 := keep_frozen hb3 (World.block_lt_of_cell? _ _ r2) fr2
  replace fr3 := keep_frozen hb3 (World.block_lt_of_cell? _ _ r3) fr3
  replace a0 := keep_cell hb3 a0
  replace a1 := keep_cell hb3 a1
  replace a2 := keep_cell hb3 a2
  replace a3 := keep_cell hb3 a3
  replace a4 := keep_cell hb3 a4
  replace a5 := keep_cell hb3 a5
  replace a6 := keep_cell hb3 a6
  replace a7 := keep_cell hb3 a7
  replace a8 := keep_cell hb3 a8
  replace a9 := keep_cell hb3 a9
  replace a10 := keep_cell hb3 a10
  replace b0 := keep_cell hb3 b0
  replace b1 := keep_cell hb3 b1
  replace b2 := keep_cell hb3 b2
  replace b3 := keep_cell hb3 b3
  replace r0 := keep_cell hb3 r0
  replace r1 := keep_cell hb3 r1
  replace r2 := keep_cell hb3 r2
  replace r3 := keep_cell hb3 r3
  rw [hW3]
  have HB3 := Lib.hid (HB2.out.trans (hb3.mono HB2.out.size))
  clear hW3 hb3
  go_wp2_with (go_at_call 71; refine (Of_any _ _ _).mono ?_; rintro e w' ⟨rfl, rfl⟩)
  refine (HT.out _ HB3.out).mono ?_
  rintro e w4 ⟨rfl, hb4⟩
  have HB4 := Lib.hid (HB3.out.trans (hb4.mono HB3.out.size))
  replace fr0 := keep_frozen hb4 (World.block_lt_of_cell? _ _ r0) fr0
  replace fr1 := keep_frozen hb4 (World.block_lt_of_cell? _ _ r1) fr1
  replace fr2 := keep_frozen hb4 (World.block_lt_of_cell? _ _ r2) fr2
  replace fr3 := keep_frozen hb4 (World.block_lt_of_cell? _ _ r3) fr3
  replace a0 := keep_cell hb4 a0
  replace a1 := keep_cell hb4 a1
  replace a2 := keep_cell hb4 a2
  replace a3 := keep_cell hb4 a3
  replace a4 := keep_cell hb4 a4
  replace a5 := keep_cell hb4 a5
  replace a6 := keep_cell hb4 a6
  replace a7 := keep_cell hb4 a7
  replace a8 := keep_cell hb4 a8
  replace a9 := keep_cell hb4 a9
  replace a10 := keep_cell hb4 a10
  replace b0 := keep_cell hb4 b0
  replace b1 := keep_cell hb4 b1
  replace b2 := keep_cell hb4 b2
  replace b3 := keep_cell hb4 b3
  replace r0 := keep_cell hb4 r0
  replace r1 := keep_cell hb4 r1
  replace r2 := keep_cell hb4 r2
  replace r3 := keep_cell hb4 r3
  replace fq0 := keep_frozen hb4 (World.block_lt_of_cell? _ _ q0) fq0
  replace fq1 := keep_frozen hb4 (World.block_lt_of_cell? _ _ q1) fq1
  replace fq2 := keep_frozen hb4 (World.block_lt_of_cell? _ _ q2) fq2
  replace fq3 := keep_frozen hb4 (World.block_lt_of_cell? _ _ q3) fq3
  replace q0 := keep_cell hb4 q0
  replace q1 := keep_cell hb4 q1
  replace q2 := keep_cell hb4 q2
  replace q3 := keep_cell hb4 q3
  have hy4 : w2.heap.size < w4.heap.size := World.block_lt_of_cell? _ _ q0
  clear hb4
  go_upto_region 9 with fail
  obtain ⟨W6, hW6⟩ : ∃ W6, setAll w2.heap.size w4 0 [.int .i64 x.k, .int .i64 x.i, .int .u64 x.u, .string x.s] = W6 := ⟨_, rfl⟩
  have hk6 := setAll_cell w2.heap.size [.int .i64 x.k, .int .i64 x.i, .int .u64 x.u, .string x.s] w4 0 (fun i hi => by
    have hi' : i < 4 := hi
    rw [Nat.zero_add]
    match i, hi' with
    | 0, _ => rw [q0]; rfl
    | 1, _ => rw [q1]; rfl
    | 2, _ => rw [q2]; rfl
    | 3, _ => rw [q3]; rfl
    | n + 4, h => omega)
  have hb6 := setAll_below (B := w.heap.size) (w := w) w2.heap.size (by omega) [.int .i64 x.k, .int .i64 x.i, .int .u64 x.u, .string x.s] w4 0 HB4.out
  replace a0 := (setAll_far w2.heap.size (a := ⟨w.heap.size, 0, none⟩) (by simp; omega) [.int .i64 x.k, .int .i64 x.i, .int .u64 x.u, .string x.s] w4 0).trans a0
  replace a1 := (setAll_far w2.heap.size (a := ⟨w.heap.size, 1, none⟩) (by simp; omega) [.int .i64 x.k, .int .i64 x.i, .int .u64 x.u, .string x.s] w4 0).trans a1
  replace a2 := (setAll_far w2.heap.size (a := ⟨w.heap.size, 2, none⟩) (by simp; omega) [.int .i64 x.k, .int .i64 x.i, .int .u64 x.u, .string x.s] w4 0).trans a2
  replace a3 := (setAll_far w2.heap.size (a := ⟨w.heap.size, 3, none⟩) (by simp; omega) [.int .i64 x.k, .int .i64 x.i, .int .u64 x.u, .string x.s] w4 0).trans a3
  replace a4 := (setAll_far w2.heap.size (a := ⟨w.heap.size, 4, none⟩) (by simp; omega) [.int .i64 x.k, .int .i64 x.i, .int .u64 x.u, .string x.s] w4 0).trans a4
  replace a5 := (setAll_far w2.heap.size (a := ⟨w.heap.size, 5, none⟩) (by simp; omega) [.int .i64 x.k, .int .i64 x.i, .int .u64 x.u, .string x.s] w4 0).trans a5
  replace a6 := (setAll_far w2.heap.size (a := ⟨w.heap.size, 6, none⟩) (by simp; omega) [.int .i64 x.k, .int .i64 x.i, .int .u64 x.u, .string x.s] w4 0).trans a6
  replace a7 := (setAll_far w2.heap.size (a := ⟨w.heap.size, 7, none⟩) (by simp; omega) [.int .i64 x.k, .int .i64 x.i, .int .u64 x.u, .string x.s] w4 0).trans a7
  replace a8 := (setAll_far w2.heap.size (a := ⟨w.heap.size, 8, none⟩) (by simp; omega) [.int .i64 x.k, .int .i64 x.i, .int .u64 x.u, .string x.s] w4 0).trans a8
  replace a9 := (setAll_far w2.heap.size (a := ⟨w.heap.size, 9, none⟩) (by simp; omega) [.int .i64 x.k, .int .i64 x.i, .int .u64 x.u, .string x.s] w4 0).trans a9
  replace a10 := (setAll_far w2.heap.size (a := ⟨w.heap.size, 10, none⟩) (by simp; omega) [.int .i64 x.k, .int .i64 x.i, .int .u64 x.u, .string x.s] w4 0).trans a10
  replace b0 := (setAll_far w2.heap.size (a := ⟨w.heap.size + 1, 0, none⟩) (by simp; omega) [.int .i64 x.k, .int .i64 x.i, .int .u64 x.u, .string x.s] w4 0).trans b0
  replace b1 := (setAll_far w2.heap.size (a := ⟨w.heap.size + 1, 1, none⟩) (by simp; omega) [.int .i64 x.k, .int .i64 x.i, .int .u64 x.u, .string x.s] w4 0).trans b1
  replace b2 := (setAll_far w2.heap.size (a := ⟨w.heap.size + 1, 2, none⟩) (by simp; omega) [.int .i64 x.k, .int .i64 x.i, .int .u64 x.u, .string x.s] w4 0).trans b2
  replace b3 := (setAll_far w2.heap.size (a := ⟨w.heap.size + 1, 3, none⟩) (by simp; omega) [.int .i64 x.k, .int .i64 x.i, .int .u64 x.u, .string x.s] w4 0).trans b3
  replace r0 := (setAll_far w2.heap.size (a := ⟨w.heap.size + 1 + 1, 0, none⟩) (by simp; omega) [.int .i64 x.k, .int .i64 x.i, .int .u64 x.u, .string x.s] w4 0).trans r0
  replace r1 := (setAll_far w2.heap.size (a := ⟨w.heap.size + 1 + 1, 1, none⟩) (by simp; omega) [.int .i64 x.k, .int .i64 x.i, .int .u64 x.u, .string x.s] w4 0).trans r1
  replace r2 := (setAll_far w2.heap.size (a := ⟨w.heap.size + 1 + 1, 2, none⟩) (by simp; omega) [.int .i64 x.k, .int .i64 x.i, .int .u64 x.u, .string x.s] w4 0).trans r2
  replace r3 := (setAll_far w2.heap.size (a := ⟨w.heap.size + 1 + 1, 3, none⟩) (by simp; omega) [.int .i64 x.k, .int .i64 x.i, .int .u64 x.u, .string x.s] w4 0).trans r3
  replace fr0 := (setAll_frozen w2.heap.size ⟨w.heap.size + 1 + 1, 0, none⟩ [.int .i64 x.k, .int .i64 x.i, .int .u64 x.u, .string x.s] w4 0).trans fr0
  replace fr1 := (setAll_frozen w2.heap.size ⟨w.heap.size + 1 + 1, 1, none⟩ [.int .i64 x.k, .int .i64 x.i, .int .u64 x.u, .string x.s] w4 0).trans fr1
  replace fr2 := (setAll_frozen w2.heap.size ⟨w.heap.size + 1 + 1, 2, none⟩ [.int .i64 x.k, .int .i64 x.i, .int .u64 x.u, .string x.s] w4 0).trans fr2
  replace fr3 := (setAll_frozen w2.heap.size ⟨w.heap.size + 1 + 1, 3, none⟩ [.int .i64 x.k, .int .i64 x.i, .int .u64 x.u, .string x.s] w4 0).trans fr3
  rw [hW6] at hk6 hb6 a0 a1 a2 a3 a4 a5 a6 a7 a8 a9 a10 b0 b1 b2 b3 r0 r1 r2 r3 fr0 fr1 fr2 fr3
  clear q0 q1 q2 q3 fq0 fq1 fq2 fq3
  have q0 : W6.cell? ⟨w2.heap.size, 0, none⟩ = some (.int .i64 x.k) := hk6 0 (by simp)
  have q1 : W6.cell? ⟨w2.heap.size, 1, none⟩ = some (.int .i64 x.i) := hk6 1 (by simp)
  have q2 : W6.cell? ⟨w2.heap.size, 2, none⟩ = some (.int .u64 x.u) := hk6 2 (by simp)
  have q3 : W6.cell? ⟨w2.heap.size, 3, none⟩ = some (.string x.s) := hk6 3 (by simp)
  have HB6 := Lib.hid hb6
  clear hk6 hb6
  change Code.wp _ _ _ _ (setAll w2.heap.size w4 0 [.int .i64 x.k, .int .i64 x.i, .int .u64 x.u, .string x.s])
  rw [hW6]
  clear hW6 hy4
  go_wp2_with (go_at_call 71; refine (Of_any _ _ _).mono ?_; rintro e w' ⟨rfl, rfl⟩)
  refine (HF.out d x _ n2 HB6.out).mono ?_
  rintro e w5 ⟨rfl, hb5⟩
  rw [HM2.out]
  have HB5 := Lib.hid (HB6.out.trans (hb5.mono HB6.out.size))
  replace fr0 := keep_frozen hb5 (World.block_lt_of_cell? _ _ r0) fr0
  replace fr1 := keep_frozen hb5 (World.block_lt_of_cell? _ _ r1) fr1
  replace fr2 := keep_frozen hb5 (World.block_lt_of_cell? _ _ r2) fr2
  replace fr3 := keep_frozen hb5 (World.block_lt_of_cell? _ _ r3) fr3
  replace a0 := keep_cell hb5 a0
  replace a1 := keep_cell hb5 a1
  replace a2 := keep_cell hb5 a2
  replace a3 := keep_cell hb5 a3
  replace a4 := keep_cell hb5 a4
  replace a5 := keep_cell hb5 a5
  replace a6 := keep_cell hb5 a6
  replace a7 := keep_cell hb5 a7
  replace a8 := keep_cell hb5 a8
  replace a9 := keep_cell hb5 a9
  replace a10 := keep_cell hb5 a10
  replace b0 := keep_cell hb5 b0
  replace b1 := keep_cell hb5 b1
  replace b2 := keep_cell hb5 b2
  replace b3 := keep_cell hb5 b3
  replace r0 := keep_cell hb5 r0
  replace r1 := keep_cell hb5 r1
  replace r2 := keep_cell hb5 r2
  replace r3 := keep_cell hb5 r3
  replace q0 := keep_cell hb5 q0
  replace q1 := keep_cell hb5 q1
  replace q2 := keep_cell hb5 q2
  replace q3 := keep_cell hb5 q3
  have hyz : w.heap.size + 1 + 1 < w5.heap.size := World.block_lt_of_cell? _ _ r0
  clear hb5 hy0 hy1 hy2
  go_wp2_with (go_at_call 71; refine (Of_any _ _ _).mono ?_; rintro e w' ⟨rfl, rfl⟩)
  refine bodyPost_ret (v := .tuple #[.agg #[.int .i64 x.k, .int .i64 x.i, .int .u64 x.u, .string x.s], .nilIface]) (by simp [results, Tryz.results59, go_sem, r0, r1, r2, r3]) rfl ⟨rfl, ?_⟩
  repeat' first | exact HB5.out | (refine Below.setCell ?_ (by simp; try omega) _)
end Go.Proofs.YtmgeefhacnadcaaGreatDoor
