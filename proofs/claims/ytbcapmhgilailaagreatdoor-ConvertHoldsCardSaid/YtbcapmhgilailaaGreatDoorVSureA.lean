/-
  (convert.conversion).sure.
-/
import Derived.Test.YtbcapmhgilailaaGreatDoorVBet0
namespace Go.Proofs.YtbcapmhgilailaaGreatDoor
open Go.RowKit

set_option maxRecDepth 100000 in
set_option maxHeartbeats 4000000 in
theorem csure_none (c d : Col) (w : World) :
    Calls Tryz.prog 33 #[.agg #[.string d.n, .int .i64 d.t, .int .i64 d.z, .bool d.u, .string c.n, .int .i64 c.t, .int .i64 c.z, .bool c.u, .nilFunc, .nilFunc, .bool false]] w fun e w' => e = .returned (.bool (false)) ∧ Below w.heap.size w w' := by
  go_enter Tryz.func33, Tryz.ntmps33
  go_upto_region 1 with fail
  obtain ⟨W1, hW1⟩ : ∃ W1, w.alloc (.cells #[.string d.n, .int .i64 d.t, .int .i64 d.z, .bool d.u, .string c.n, .int .i64 c.t, .int .i64 c.z, .bool c.u, .nilFunc, .nilFunc, .bool false] 80) = W1 := ⟨_, rfl⟩
  have hb1 : Below w.heap.size w W1 := by rw [← hW1]; exact (Below.refl _ _).alloc (Nat.le_refl _) _
  have a0 : W1.cell? ⟨w.heap.size, 0, none⟩ = some (.string d.n) := by rw [← hW1]; simp [go_sem]
  have a1 : W1.cell? ⟨w.heap.size, 1, none⟩ = some (.int .i64 d.t) := by rw [← hW1]; simp [go_sem]
  have a2 : W1.cell? ⟨w.heap.size, 2, none⟩ = some (.int .i64 d.z) := by rw [← hW1]; simp [go_sem]
  have a3 : W1.cell? ⟨w.heap.size, 3, none⟩ = some (.bool d.u) := by rw [← hW1]; simp [go_sem]
  have a4 : W1.cell? ⟨w.heap.size, 4, none⟩ = some (.string c.n) := by rw [← hW1]; simp [go_sem]
  have a5 : W1.cell? ⟨w.heap.size, 5, none⟩ = some (.int .i64 c.t) := by rw [← hW1]; simp [go_sem]
  have a6 : W1.cell? ⟨w.heap.size, 6, none⟩ = some (.int .i64 c.z) := by rw [← hW1]; simp [go_sem]
  have a7 : W1.cell? ⟨w.heap.size, 7, none⟩ = some (.bool c.u) := by rw [← hW1]; simp [go_sem]
  have a8 : W1.cell? ⟨w.heap.size, 8, none⟩ = some (.nilFunc) := by rw [← hW1]; simp [go_sem]
  have a9 : W1.cell? ⟨w.heap.size, 9, none⟩ = some (.nilFunc) := by rw [← hW1]; simp [go_sem]
  have a10 : W1.cell? ⟨w.heap.size, 10, none⟩ = some (.bool false) := by rw [← hW1]; simp [go_sem]
  rw [hW1]
  have HB1 := Lib.hid hb1
  clear hW1 hb1
  go_wp2_with fail
  refine bodyPost_ret (v := .bool false) (by simp [results, Tryz.results33, go_sem]) rfl ⟨rfl, HB1.out⟩
set_option maxRecDepth 100000 in
set_option maxHeartbeats 4000000 in
theorem csure_some (c d : Col) (w : World) (f g : Nat) (hcf : ∀ a W, (callFunc g a).run Tryz.prog W = .ok (.enter g a) W) (s : Bool) (hG : ∀ W, Below w.heap.size w W → Calls Tryz.prog g #[.int .i64 c.z, .int .i64 d.z] W fun e w' => e = .returned (.bool s) ∧ Below W.heap.size W w') :
    Calls Tryz.prog 33 #[.agg #[.string d.n, .int .i64 d.t, .int .i64 d.z, .bool d.u, .string c.n, .int .i64 c.t, .int .i64 c.z, .bool c.u, .func (.func f) #[] #[], .func (.func g) #[] #[], .bool true]] w fun e w' => e = .returned (.bool ((d.u || !c.u) && s)) ∧ Below w.heap.size w w' := by
  have HG := Lib.hid hG
  clear hG
  obtain ⟨cn, ct, cz, cu⟩ := c
  obtain ⟨dn, dt, dz, du⟩ := d
  go_enter Tryz.func33, Tryz.ntmps33
  go_upto_region 1 with fail
  obtain ⟨W1, hW1⟩ : ∃ W1, w.alloc (.cells #[.string dn, .int .i64 dt, .int .i64 dz, .bool du, .string cn, .int .i64 ct, .int .i64 cz, .bool cu, .func (.func f) #[] #[], .func (.func g) #[] #[], .bool true] 80) = W1 := ⟨_, rfl⟩
  have hb1 : Below w.heap.size w W1 := by rw [← hW1]; exact (Below.refl _ _).alloc (Nat.le_refl _) _
  have a0 : W1.cell? ⟨w.heap.size, 0, none⟩ = some (.string dn) := by rw [← hW1]; simp [go_sem]
  have a1 : W1.cell? ⟨w.heap.size, 1, none⟩ = some (.int .i64 dt) := by rw [← hW1]; simp [go_sem]
  have a2 : W1.cell? ⟨w.heap.size, 2, none⟩ = some (.int .i64 dz) := by rw [← hW1]; simp [go_sem]
  have a3 : W1.cell? ⟨w.heap.size, 3, none⟩ = some (.bool du) := by rw [← hW1]; simp [go_sem]
  have a4 : W1.cell? ⟨w.heap.size, 4, none⟩ = some (.string cn) := by rw [← hW1]; simp [go_sem]
  have a5 : W1.cell? ⟨w.heap.size, 5, none⟩ = some (.int .i64 ct) := by rw [← hW1]; simp [go_sem]
  have a6 : W1.cell? ⟨w.heap.size, 6, none⟩ = some (.int .i64 cz) := by rw [← hW1]; simp [go_sem]
  have a7 : W1.cell? ⟨w.heap.size, 7, none⟩ = some (.bool cu) := by rw [← hW1]; simp [go_sem]
  have a8 : W1.cell? ⟨w.heap.size, 8, none⟩ = some (.func (.func f) #[] #[]) := by rw [← hW1]; simp [go_sem]
  have a9 : W1.cell? ⟨w.heap.size, 9, none⟩ = some (.func (.func g) #[] #[]) := by rw [← hW1]; simp [go_sem]
  have a10 : W1.cell? ⟨w.heap.size, 10, none⟩ = some (.bool true) := by rw [← hW1]; simp [go_sem]
  rw [hW1]
  have HB1 := Lib.hid hb1
  clear hW1 hb1
  cases cu <;> cases du
  · go_wp2_with fail
    (refine (HG.out _ HB1.out).mono ?_; rintro e w2 ⟨rfl, hb2⟩)
    go_wp2_with fail
    refine bodyPost_ret (v := .bool s) (by simp [results, Tryz.results33, go_sem]) rfl ⟨by simp, HB1.out.trans (hb2.mono HB1.out.size)⟩
  · go_wp2_with fail
    (refine (HG.out _ HB1.out).mono ?_; rintro e w2 ⟨rfl, hb2⟩)
    go_wp2_with fail
    refine bodyPost_ret (v := .bool s) (by simp [results, Tryz.results33, go_sem]) rfl ⟨by simp, HB1.out.trans (hb2.mono HB1.out.size)⟩
  · go_wp2_with fail
    refine bodyPost_ret (v := .bool false) (by simp [results, Tryz.results33, go_sem]) rfl ⟨rfl, HB1.out⟩
  · go_wp2_with fail
    (refine (HG.out _ HB1.out).mono ?_; rintro e w2 ⟨rfl, hb2⟩)
    go_wp2_with fail
    refine bodyPost_ret (v := .bool s) (by simp [results, Tryz.results33, go_sem]) rfl ⟨by simp, HB1.out.trans (hb2.mono HB1.out.size)⟩
end Go.Proofs.YtbcapmhgilailaaGreatDoor
