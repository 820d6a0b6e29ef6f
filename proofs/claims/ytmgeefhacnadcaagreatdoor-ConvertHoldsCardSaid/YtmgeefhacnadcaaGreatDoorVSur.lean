/-
  convert.Sure.
-/
import Derived.Test.YtmgeefhacnadcaaGreatDoorVBet0
import Derived.Test.YtmgeefhacnadcaaGreatDoorVTop
import Derived.Test.YtmgeefhacnadcaaGreatDoorVConv
namespace Go.Proofs.YtmgeefhacnadcaaGreatDoor
open Go.RowKit

set_option maxRecDepth 100000 in
set_option maxHeartbeats 4000000 in
theorem csure_none (c d : Col) (w : World) :
    Calls Tryz.prog 33 #[.agg #[.string d.n, .int .i64 d.t, .int .i64 d.z, .bool d.u, .string c.n, .int .i64 c.t, .int .i64 c.z, .bool c.u, .nilFunc, .nilFunc, .bool false]] w fun e w' => e = .returned (.bool (false)) ∧ Below w.heap.size w w' := by
  go_enter Tryz.func33, Tryz.ntmps33
  go_upto_region 1 with fail
  obtain ⟨W1, hW1⟩ : ∃ W1, w.alloc (.cells #[.string d.n, .int .i64 d.t, .int .i64 d.z, .bool d.u, .string c.n, .int .i64 c.t, .int .i64 c.z, .bool c.u, .nilFunc, .nilFunc, .bool false] 80) = W1 := ⟨_, rfl⟩
  have hb1 : Below w.heap.size w W1 := by rw [← hW1]; exact (Below.refl _ _).alloc (Nat.le_refl _) _
  have a0 : W1.cell? ⟨w.heap.size, 0, none⟩ = some (.string d.n) := by rw [← hW1]; simp [go_sem]
  have a1 : W1.cell? ⟨w.heap.size, 1, none⟩ = some (.int .i64 d.t) := by rw [← hW1]; simp [go_sem]
  have a2 : W1.cell? ⟨w.heap.size, 2, none⟩ = some (.int .i64 d.z) := by rw [← hW1]; simp [go_sem]
  have a3 : W1.cell? ⟨w.heap.size, 3, none⟩ = some (.bool d.u) := by rw [← hW1]; simp [go_sem]
  have a4 : W1.cell? ⟨w.heap.size, 4, none⟩ = some (.string c.n) := by rw [← hW1]; simp [go_sem]
  have a5 : W1.cell? ⟨w.heap.size, 5, none⟩ = some (.int .i64 c.t) := by rw [← hW1]; simp [go_sem]
  have a6 : W1.cell? ⟨w.heap.size, 6, none⟩ = some (.int .i64 c.z) := by rw [← hW1]; simp [go_sem]
  have a7 : W1.cell? ⟨w.heap.size, 7, none⟩ = some (.bool c.u) := by rw [← hW1]; simp [go_sem]
  have a8 : W1.cell? ⟨w.heap.size, 8, none⟩ = some (.nilFunc) := by rw [← hW1]; simp [go_sem]
  have a9 : W1.cell? ⟨w.heap.size, 9, none⟩ = some (.nilFunc) := by rw [← hW1]; simp [go_sem]
  have a10 : W1.cell? ⟨w.heap.size, 10, none⟩ = some (.bool false) := by rw [← hW1]; simp [go_sem]
  rw [hW1]
  have HB1 := Lib.hid hb1
  clear hW1 hb1
  go_wp2_with fail
  refine bodyPost_ret (v := .bool false) (by simp [results, Tryz.results33, go_sem]) rfl ⟨rfl, HB1.out⟩
set_option maxRecDepth 100000 in
set_option maxHeartbeats 4000000 in
theorem csure_some (c d : Col) (w : World) (f g : Nat) (hcf : ∀ a W, (callFunc g a).run Tryz.prog W = .ok (.enter g a) W) (s : Bool) (hG : ∀ W, Below w.heap.size w W → Calls Tryz.prog g #[.int .i64 c.z, .int .i64 d.z] W fun e w' => e = .returned (.bool s) ∧ Below W.heap.size W w') :
    Calls Tryz.prog 33 #[.agg #[.string d.n, .int .i64 d.t, .int .i64 d.z, .bool d.u, .string c.n, .int .i64 c.t, .int .i64 c.z, .bool c.u, .func (.func f) #[] #[], .func (.func g) #[] #[], .bool true]] w fun e w' => e = .returned (.bool ((d.u || !c.u) && s)) ∧ Below w.heap.size w w' := by
  have HG := Lib.hid hG
  clear hG
  obtain ⟨cn, ct, cz, cu⟩ := c
  obtain ⟨dn, dt, dz, du⟩ := d
  go_enter Tryz.func33, Tryz.ntmps33
  go_upto_region 1 with fail
  obtain ⟨W1, hW1⟩ : ∃ W1, w.alloc (.cells #[.string dn, .int .i64 dt, .int .i64 dz, .bool du, .string cn, .int .i64 ct, .int .i64 cz, .bool cu, .func (.func f) #[] #[], .func (.func g) #[] #[], .bool true] 80) = W1 := ⟨_, rfl⟩
  have hb1 : Below w.heap.size w W1 := by rw [← hW1]; exact (Below.refl _ _).alloc (Nat.le_refl _) _
  have a0 : W1.cell? ⟨w.heap.size, 0, none⟩ = some (.string dn) := by rw [← hW1]; simp [go_sem]
  have a1 : W1.cell? ⟨w.heap.size, 1, none⟩ = some (.int .i64 dt) := by rw [← hW1]; simp [go_sem]
  have a2 : W1.cell? ⟨w.heap.size, 2, none⟩ = some (.int .i64 dz) := by rw [← hW1]; simp [go_sem]
  have a3 : W1.cell? ⟨w.heap.size, 3, none⟩ = some (.bool du) := by rw [← hW1]; simp [go_sem]
  have a4 : W1.cell? ⟨w.heap.size, 4, none⟩ = some (.string cn) := by rw [← hW1]; simp [go_sem]
  have a5 : W1.cell? ⟨w.heap.size, 5, none⟩ = some (.int .i64 ct) := by rw [← hW1]; simp [go_sem]
  have a6 : W1.cell? ⟨w.heap.size, 6, none⟩ = some (.int .i64 cz) := by rw [← hW1]; simp [go_sem]
  have a7 : W1.cell? ⟨w.heap.size, 7, none⟩ = some (.bool cu) := by rw [← hW1]; simp [go_sem]
  have a8 : W1.cell? ⟨w.heap.size, 8, none⟩ = some (.func (.func f) #[] #[]) := by rw [← hW1]; simp [go_sem]
  have a9 : W1.cell? ⟨w.heap.size, 9, none⟩ = some (.func (.func g) #[] #[]) := by rw [← hW1]; simp [go_sem]
  have a10 : W1.cell? ⟨w.heap.size, 10, none⟩ = some (.bool true) := by rw [← hW1]; simp [go_sem]
  rw [hW1]
  have HB1 := Lib.hid hb1
  clear hW1 hb1
  cases cu <;> cases du
  · go_wp2_with fail
    (refine (HG.out _ HB1.out).mono ?_; rintro e w2 ⟨rfl, hb2⟩)
    go_wp2_with fail
    refine bodyPost_ret (v := .bool s) (by simp [results, Tryz.results33, go_sem]) rfl ⟨by simp, HB1.out.trans (hb2.mono HB1.out.size)⟩
  · go_wp2_with fail
    (refine (HG.out _ HB1.out).mono ?_; rintro e w2 ⟨rfl, hb2⟩)
    go_wp2_with fail
    refine bodyPost_ret (v := .bool s) (by simp [results, Tryz.results33, go_sem]) rfl ⟨by simp, HB1.out.trans (hb2.mono HB1.out.size)⟩
  · go_wp2_with fail
    refine bodyPost_ret (v := .bool false) (by simp [results, Tryz.results33, go_sem]) rfl ⟨rfl, HB1.out⟩
  · go_wp2_with fail
    (refine (HG.out _ HB1.out).mono ?_; rintro e w2 ⟨rfl, hb2⟩)
    go_wp2_with fail
    refine bodyPost_ret (v := .bool s) (by simp [results, Tryz.results33, go_sem]) rfl ⟨by simp, HB1.out.trans (hb2.mono HB1.out.size)⟩
end Go.Proofs.YtmgeefhacnadcaaGreatDoor
namespace Go.Proofs.YtmgeefhacnadcaaGreatDoor
open Go.RowKit

/-- eleven zero cells of a conversion -/
structure Zero11 (W : World) (b : Nat) : Prop where
  c0 : W.cell? ⟨b, 0, none⟩ = some (.string ⟨#[]⟩)
  c1 : W.cell? ⟨b, 1, none⟩ = some (.int .i64 0)
  c2 : W.cell? ⟨b, 2, none⟩ = some (.int .i64 0)
  c3 : W.cell? ⟨b, 3, none⟩ = some (.bool false)
  c4 : W.cell? ⟨b, 4, none⟩ = some (.string ⟨#[]⟩)
  c5 : W.cell? ⟨b, 5, none⟩ = some (.int .i64 0)
  c6 : W.cell? ⟨b, 6, none⟩ = some (.int .i64 0)
  c7 : W.cell? ⟨b, 7, none⟩ = some (.bool false)
  c8 : W.cell? ⟨b, 8, none⟩ = some (.nilFunc)
  c9 : W.cell? ⟨b, 9, none⟩ = some (.nilFunc)
  c10 : W.cell? ⟨b, 10, none⟩ = some (.bool false)
  f0 : W.frozen? ⟨b, 0, none⟩ = false
  f1 : W.frozen? ⟨b, 1, none⟩ = false
  f2 : W.frozen? ⟨b, 2, none⟩ = false
  f3 : W.frozen? ⟨b, 3, none⟩ = false
  f4 : W.frozen? ⟨b, 4, none⟩ = false
  f5 : W.frozen? ⟨b, 5, none⟩ = false
  f6 : W.frozen? ⟨b, 6, none⟩ = false
  f7 : W.frozen? ⟨b, 7, none⟩ = false
  f8 : W.frozen? ⟨b, 8, none⟩ = false
  f9 : W.frozen? ⟨b, 9, none⟩ = false
  f10 : W.frozen? ⟨b, 10, none⟩ = false
  lt : b < W.heap.size
theorem Zero11.keep {W W' : World} {b : Nat} (h : Zero11 W b) (hb : Below W.heap.size W W') : Zero11 W' b :=
  ⟨keep_cell hb h.c0, keep_cell hb h.c1, keep_cell hb h.c2, keep_cell hb h.c3, keep_cell hb h.c4, keep_cell hb h.c5, keep_cell hb h.c6, keep_cell hb h.c7, keep_cell hb h.c8, keep_cell hb h.c9, keep_cell hb h.c10, keep_frozen hb h.lt h.f0, keep_frozen hb h.lt h.f1, keep_frozen hb h.lt h.f2, keep_frozen hb h.lt h.f3, keep_frozen hb h.lt h.f4, keep_frozen hb h.lt h.f5, keep_frozen hb h.lt h.f6, keep_frozen hb h.lt h.f7, keep_frozen hb h.lt h.f8, keep_frozen hb h.lt h.f9, keep_frozen hb h.lt h.f10, Nat.lt_of_lt_of_le h.lt hb.size⟩
theorem zero11 {W0 W : World} {b : Nat} (hb : Below (W0.alloc (.cells #[.string ⟨#[]⟩, .int .i64 0, .int .i64 0, .bool false, .string ⟨#[]⟩, .int .i64 0, .int .i64 0, .bool false, .nilFunc, .nilFunc, .bool false] 80)).heap.size (W0.alloc (.cells #[.string ⟨#[]⟩, .int .i64 0, .int .i64 0, .bool false, .string ⟨#[]⟩, .int .i64 0, .int .i64 0, .bool false, .nilFunc, .nilFunc, .bool false] 80)) W) (he : W0.heap.size = b) : Zero11 W b := by
  subst he
  refine Zero11.keep ?_ hb
  exact ⟨by simp [go_sem], by simp [go_sem], by simp [go_sem], by simp [go_sem], by simp [go_sem], by simp [go_sem], by simp [go_sem], by simp [go_sem], by simp [go_sem], by simp [go_sem], by simp [go_sem], by simp [go_sem], by simp [go_sem], by simp [go_sem], by simp [go_sem], by simp [go_sem], by simp [go_sem], by simp [go_sem], by simp [go_sem], by simp [go_sem], by simp [go_sem], by simp [go_sem], by simp⟩
theorem zero11d {W0 W : World} {b : Nat} (hb : Below (W0.alloc (.cells #[.string ⟨#[]⟩, .int .i64 0, .int .i64 0, .bool false, .string ⟨#[]⟩, .int .i64 0, .int .i64 0, .bool false, .nilFunc, .nilFunc, .bool false] 80)).drew.heap.size (W0.alloc (.cells #[.string ⟨#[]⟩, .int .i64 0, .int .i64 0, .bool false, .string ⟨#[]⟩, .int .i64 0, .int .i64 0, .bool false, .nilFunc, .nilFunc, .bool false] 80)).drew W) (he : W0.heap.size = b) : Zero11 W b := by
  subst he
  refine Zero11.keep ?_ hb
  exact ⟨by simp [go_sem], by simp [go_sem], by simp [go_sem], by simp [go_sem], by simp [go_sem], by simp [go_sem], by simp [go_sem], by simp [go_sem], by simp [go_sem], by simp [go_sem], by simp [go_sem], by simp [go_sem], by simp [go_sem], by simp [go_sem], by simp [go_sem], by simp [go_sem], by simp [go_sem], by simp [go_sem], by simp [go_sem], by simp [go_sem], by simp [go_sem], by simp [go_sem], by simp⟩
theorem zero11_set {W : World} {b : Nat} (h : Zero11 W b) (x0 x1 x2 x3 x4 x5 x6 x7 x8 x9 x10 : Value) :
    let W' := (((((((((((W.setCell ⟨b, 0, none⟩ x0).setCell ⟨b, 1, none⟩ x1).setCell ⟨b, 2, none⟩ x2).setCell ⟨b, 3, none⟩ x3).setCell ⟨b, 4, none⟩ x4).setCell ⟨b, 5, none⟩ x5).setCell ⟨b, 6, none⟩ x6).setCell ⟨b, 7, none⟩ x7).setCell ⟨b, 8, none⟩ x8).setCell ⟨b, 9, none⟩ x9).setCell ⟨b, 10, none⟩ x10)
    W'.cell? ⟨b, 0, none⟩ = some x0 ∧ W'.cell? ⟨b, 1, none⟩ = some x1 ∧ W'.cell? ⟨b, 2, none⟩ = some x2 ∧ W'.cell? ⟨b, 3, none⟩ = some x3 ∧ W'.cell? ⟨b, 4, none⟩ = some x4 ∧ W'.cell? ⟨b, 5, none⟩ = some x5 ∧ W'.cell? ⟨b, 6, none⟩ = some x6 ∧ W'.cell? ⟨b, 7, none⟩ = some x7 ∧ W'.cell? ⟨b, 8, none⟩ = some x8 ∧ W'.cell? ⟨b, 9, none⟩ = some x9 ∧ W'.cell? ⟨b, 10, none⟩ = some x10 := by
  have k : ∀ i, i < 11 → (setAll b W 0 [x0, x1, x2, x3, x4, x5, x6, x7, x8, x9, x10]).cell? ⟨b, 0 + i, none⟩ = [x0, x1, x2, x3, x4, x5, x6, x7, x8, x9, x10][i]? := setAll_cell b [x0, x1, x2, x3, x4, x5, x6, x7, x8, x9, x10] W 0 (fun i hi => by
    match i, hi with
    | 0, _ => simp [h.c0]
    | 1, _ => simp [h.c1]
    | 2, _ => simp [h.c2]
    | 3, _ => simp [h.c3]
    | 4, _ => simp [h.c4]
    | 5, _ => simp [h.c5]
    | 6, _ => simp [h.c6]
    | 7, _ => simp [h.c7]
    | 8, _ => simp [h.c8]
    | 9, _ => simp [h.c9]
    | 10, _ => simp [h.c10]
    | i + 11, hi => exact absurd hi (by simp))
  exact ⟨k 0 (by omega), k 1 (by omega), k 2 (by omega), k 3 (by omega), k 4 (by omega), k 5 (by omega), k 6 (by omega), k 7 (by omega), k 8 (by omega), k 9 (by omega), k 10 (by omega)⟩
theorem far11 {W : World} {q b k : Nat} (hne : q ≠ b) (x0 x1 x2 x3 x4 x5 x6 x7 x8 x9 x10 : Value) :
    ((((((((((((W.setCell ⟨b, 0, none⟩ x0).setCell ⟨b, 1, none⟩ x1).setCell ⟨b, 2, none⟩ x2).setCell ⟨b, 3, none⟩ x3).setCell ⟨b, 4, none⟩ x4).setCell ⟨b, 5, none⟩ x5).setCell ⟨b, 6, none⟩ x6).setCell ⟨b, 7, none⟩ x7).setCell ⟨b, 8, none⟩ x8).setCell ⟨b, 9, none⟩ x9).setCell ⟨b, 10, none⟩ x10)).cell? ⟨q, k, none⟩ = W.cell? ⟨q, k, none⟩ :=
  setAll_far b (a := ⟨q, k, none⟩) hne [x0, x1, x2, x3, x4, x5, x6, x7, x8, x9, x10] W 0

theorem below_set11 {B : Nat} {w W : World} {b : Nat} (h : Below B w W) (hB : B ≤ b) (x0 x1 x2 x3 x4 x5 x6 x7 x8 x9 x10 : Value) : Below B w ((((((((((((W.setCell ⟨b, 0, none⟩ x0).setCell ⟨b, 1, none⟩ x1).setCell ⟨b, 2, none⟩ x2).setCell ⟨b, 3, none⟩ x3).setCell ⟨b, 4, none⟩ x4).setCell ⟨b, 5, none⟩ x5).setCell ⟨b, 6, none⟩ x6).setCell ⟨b, 7, none⟩ x7).setCell ⟨b, 8, none⟩ x8).setCell ⟨b, 9, none⟩ x9).setCell ⟨b, 10, none⟩ x10)) :=
  setAll_below b hB [x0, x1, x2, x3, x4, x5, x6, x7, x8, x9, x10] W 0 h

set_option maxRecDepth 100000 in
set_option maxHeartbeats 8000000 in
theorem Sure_some (c d : Col) (w : World) (hE : Env w) (f g : Nat) (hcf : ∀ a W, (callFunc g a).run Tryz.prog W = .ok (.enter g a) W) (s : Bool) (hG : ∀ W, Below w.heap.size w W → Calls Tryz.prog g #[.int .i64 c.z, .int .i64 d.z] W fun e w' => e = .returned (.bool s) ∧ Below W.heap.size W w') (hC : ∀ r es cl W, Below w.heap.size w W → W.heap[r]? = some (.map es cl) → IsWays es → Calls Tryz.prog 32 #[.map (some r), .agg #[.string c.n, .int .i64 c.t, .int .i64 c.z, .bool c.u], .agg #[.string d.n, .int .i64 d.t, .int .i64 d.z, .bool d.u]] W fun e w' => e = .returned (.tuple #[.agg #[.string d.n, .int .i64 d.t, .int .i64 d.z, .bool d.u, .string c.n, .int .i64 c.t, .int .i64 c.z, .bool c.u, .func (.func f) #[] #[], .func (.func g) #[] #[], .bool true], .nilIface]) ∧ Below W.heap.size W w') :
    Calls Tryz.prog 13 #[.agg #[.string c.n, .int .i64 c.t, .int .i64 c.z, .bool c.u], .agg #[.string d.n, .int .i64 d.t, .int .i64 d.z, .bool d.u]] w fun e w' => e = .returned (.tuple #[.bool ((d.u || !c.u) && s), .int .i64 0]) ∧ Below w.heap.size w w' := by
  have HE := Lib.hid (fun W (hb : Below w.heap.size w W) => (hE.keep hb).et)
  have HC := Lib.hid hC
  have HCS := Lib.hid (fun W (hb : Below w.heap.size w W) => csure_some c d W f g hcf s (fun W' hb' => hG W' (hb.trans (hb'.mono hb.size))))
  clear hE hC hcf hG
  go_enter Tryz.func13, Tryz.ntmps13
  go_upto_region 1 with fail
  obtain ⟨W1, hW1⟩ : ∃ W1, (w.alloc (.cells #[.string c.n, .int .i64 c.t, .int .i64 c.z, .bool c.u] 24)).alloc (.cells #[.string d.n, .int .i64 d.t, .int .i64 d.z, .bool d.u] 24) = W1 := ⟨_, rfl⟩
  have hb1 : Below w.heap.size w W1 := by rw [← hW1]; exact ((Below.refl _ _).alloc (Nat.le_refl _) _).alloc (by simp) _
  have a0 : W1.cell? ⟨w.heap.size, 0, none⟩ = some (.string c.n) := by rw [← hW1]; simp [go_sem]
  have a1 : W1.cell? ⟨w.heap.size, 1, none⟩ = some (.int .i64 c.t) := by rw [← hW1]; simp [go_sem]
  have a2 : W1.cell? ⟨w.heap.size, 2, none⟩ = some (.int .i64 c.z) := by rw [← hW1]; simp [go_sem]
  have a3 : W1.cell? ⟨w.heap.size, 3, none⟩ = some (.bool c.u) := by rw [← hW1]; simp [go_sem]
  have b0 : W1.cell? ⟨w.heap.size + 1, 0, none⟩ = some (.string d.n) := by rw [← hW1]; simp [go_sem]
  have b1 : W1.cell? ⟨w.heap.size + 1, 1, none⟩ = some (.int .i64 d.t) := by rw [← hW1]; simp [go_sem]
  have b2 : W1.cell? ⟨w.heap.size + 1, 2, none⟩ = some (.int .i64 d.z) := by rw [← hW1]; simp [go_sem]
  have b3 : W1.cell? ⟨w.heap.size + 1, 3, none⟩ = some (.bool d.u) := by rw [← hW1]; simp [go_sem]
  rw [hW1]
  have HB1 := Lib.hid hb1
  clear hW1 hb1
  have hy1 : w.heap.size + 1 < W1.heap.size := World.block_lt_of_cell? _ _ b0
  have hy0 : w.heap.size < W1.heap.size := by omega
  have HS : Hid (∀ W, Below W1.heap.size W1 W → W.cell? ⟨w.heap.size, 0, none⟩ = some (.string c.n) ∧ W.cell? ⟨w.heap.size, 1, none⟩ = some (.int .i64 c.t) ∧ W.cell? ⟨w.heap.size, 2, none⟩ = some (.int .i64 c.z) ∧ W.cell? ⟨w.heap.size, 3, none⟩ = some (.bool c.u) ∧ W.cell? ⟨w.heap.size + 1, 0, none⟩ = some (.string d.n) ∧ W.cell? ⟨w.heap.size + 1, 1, none⟩ = some (.int .i64 d.t) ∧ W.cell? ⟨w.heap.size + 1, 2, none⟩ = some (.int .i64 d.z) ∧ W.cell? ⟨w.heap.size + 1, 3, none⟩ = some (.bool d.u) ∧ Below W1.heap.size W1 W) := Lib.hid (fun W hb => ⟨keep_cell hb a0, keep_cell hb a1, keep_cell hb a2, keep_cell hb a3, keep_cell hb b0, keep_cell hb b1, keep_cell hb b2, keep_cell hb b3, hb⟩)
  go_cut [6, 7] (fun s6 s7 wx => ∃ q, s6 = .pointer (some ⟨q, 0, none⟩) ∧ s7 = .nilIface ∧ W1.heap.size ≤ q ∧ wx.cell? ⟨q, 0, none⟩ = some (.string d.n) ∧ wx.cell? ⟨q, 1, none⟩ = some (.int .i64 d.t) ∧ wx.cell? ⟨q, 2, none⟩ = some (.int .i64 d.z) ∧ wx.cell? ⟨q, 3, none⟩ = some (.bool d.u) ∧ wx.cell? ⟨q, 4, none⟩ = some (.string c.n) ∧ wx.cell? ⟨q, 5, none⟩ = some (.int .i64 c.t) ∧ wx.cell? ⟨q, 6, none⟩ = some (.int .i64 c.z) ∧ wx.cell? ⟨q, 7, none⟩ = some (.bool c.u) ∧ wx.cell? ⟨q, 8, none⟩ = some (.func (.func f) #[] #[]) ∧ wx.cell? ⟨q, 9, none⟩ = some (.func (.func g) #[] #[]) ∧ wx.cell? ⟨q, 10, none⟩ = some (.bool true) ∧ Below W1.heap.size W1 wx)
  case first =>
    go_region_held3 (fun w' => w'.cell? ⟨w.heap.size, 0, none⟩ = some (.string c.n) ∧ w'.cell? ⟨w.heap.size, 1, none⟩ = some (.int .i64 c.t) ∧ w'.cell? ⟨w.heap.size, 2, none⟩ = some (.int .i64 c.z) ∧ w'.cell? ⟨w.heap.size, 3, none⟩ = some (.bool c.u) ∧ w'.cell? ⟨w.heap.size + 1, 0, none⟩ = some (.string d.n) ∧ w'.cell? ⟨w.heap.size + 1, 1, none⟩ = some (.int .i64 d.t) ∧ w'.cell? ⟨w.heap.size + 1, 2, none⟩ = some (.int .i64 d.z) ∧ w'.cell? ⟨w.heap.size + 1, 3, none⟩ = some (.bool d.u) ∧ Below W1.heap.size W1 w') ((refine HS.out _ ?_; go_split_ands; first | (with_reducible exact below_set11 (by assumption) (by first | exact Nat.le_refl _ | omega | (simp; omega)) _ _ _ _ _ _ _ _ _ _ _) | (with_reducible exact Below.drew (Below.refl _ _)) | (with_reducible exact held_trans (by assumption) hb4) | (with_reducible exact held_trans (by assumption) hb3) | (with_reducible exact below_realloc (by assumption) (by omega)) | (with_reducible exact Below.alloc (by assumption) (Below.size (by assumption)) _) | (with_reducible exact Below.alloc (Below.refl _ _) (Nat.le_refl _) _) | (with_reducible exact Below.alloc (Below.drew (Below.refl _ _)) (Nat.le_refl _) _) | (with_reducible exact Below.drew (Below.alloc (Below.refl _ _) (Nat.le_refl _) _)) | (with_reducible exact Below.drew (by assumption))))
      (first | (go_at_call 26; refine (known_any _).mono ?_; rintro e w3 ⟨rfl, ⟨es, cl, hm, hw⟩, hb3⟩; (first | have HM : Hid (w3.heap[W1.heap.size]? = some (.map es cl)) := Lib.hid hm | (replace hm := (show w3.heap[(W1.alloc (.cells #[.string ⟨#[]⟩, .int .i64 0, .int .i64 0, .bool false, .string ⟨#[]⟩, .int .i64 0, .int .i64 0, .bool false, .nilFunc, .nilFunc, .bool false] 80)).heap.size]? = some (.map es cl) from hm); rw [World.size_alloc] at hm; have HM : Hid (w3.heap[W1.heap.size + 1]? = some (.map es cl)) := Lib.hid hm)); have HW := Lib.hid hw; clear hm hw; have hz3 := hb3.size; (try simp at hz3); (try (first | have P := zero11 (b := W1.heap.size) hb3 rfl | have P := zero11d (b := W1.heap.size) hb3 rfl))) | (go_at_call 32; refine (HC.out _ _ _ _ (HB1.out.trans (Below.mono (by go_split_ands; first | assumption | (exact Below.alloc (by assumption) (Below.size (by assumption)) _)) HB1.out.size)) (by first | with_reducible exact HM.out | exact heap_old HM.out _) HW.out).mono ?_; rintro e w4 ⟨rfl, hb4⟩; have hz4 := hb4.size; (try simp at hz4); (first | have P := Zero11.keep P hb4 | have P := zero11 (b := w3.heap.size) hb4 rfl | skip); (try (have P4 := P; obtain ⟨p0, p1, p2, p3, p4, p5, p6, p7, p8, p9, p10, fp0, fp1, fp2, fp3, fp4, fp5, fp6, fp7, fp8, fp9, fp10, hpl⟩ := P))))
    all_goals go_wp2_with fail
    all_goals go_meet
    all_goals rename_i hh
    all_goals refine ⟨_, rfl, rfl, by omega, ?_⟩
    all_goals (first | refine ⟨by simp [go_sem], by simp [go_sem], by simp [go_sem], by simp [go_sem], by simp [go_sem], by simp [go_sem], by simp [go_sem], by simp [go_sem], by simp [go_sem], by simp [go_sem], by simp [go_sem], hh.2.2.2.2.2.2.2.2⟩ | (obtain ⟨k0, k1, k2, k3, k4, k5, k6, k7, k8, k9, k10⟩ := zero11_set P4 (.string d.n) (.int .i64 d.t) (.int .i64 d.z) (.bool d.u) (.string c.n) (.int .i64 c.t) (.int .i64 c.z) (.bool c.u) (.func (.func f) #[] #[]) (.func (.func g) #[] #[]) (.bool true); refine ⟨k0, k1, k2, k3, k4, k5, k6, k7, k8, k9, k10, hh.2.2.2.2.2.2.2.2⟩))
  case rest =>
    obtain ⟨q, rfl, rfl, hq, e0, e1, e2, e3, e4, e5, e6, e7, e8, e9, e10, hbx⟩ := hcut
    have HEZ := Lib.hid (HE.out wc (HB1.out.trans (hbx.mono HB1.out.size)))
    have HBX := Lib.hid (HB1.out.trans (hbx.mono HB1.out.size))
    clear hbx HS HC HE a0 a1 a2 a3 b0 b1 b2 b3
    go_wp2_with (first | (go_at_call 33; refine (HCS.out _ HBX.out).mono ?_; rintro e w5 ⟨rfl, hb5⟩) | (go_at_call 28; refine (xerrno_nil _).mono ?_; rintro e w6 ⟨rfl, hb6⟩))
    refine bodyPost_ret (v := .tuple #[.bool ((d.u || !c.u) && s), .int .i64 0]) (by simp [results, Tryz.results13, go_sem]) rfl ⟨rfl, ?_⟩
    exact (HBX.out.trans (hb5.mono HBX.out.size)).trans (hb6.mono (Nat.le_trans HBX.out.size hb5.size))
set_option maxRecDepth 100000 in
set_option maxHeartbeats 8000000 in
theorem Sure_none (c d : Col) (w : World) (hE : Env w) (hC : ∀ r es cl W, Below w.heap.size w W → W.heap[r]? = some (.map es cl) → IsWays es → Calls Tryz.prog 32 #[.map (some r), .agg #[.string c.n, .int .i64 c.t, .int .i64 c.z, .bool c.u], .agg #[.string d.n, .int .i64 d.t, .int .i64 d.z, .bool d.u]] W fun e w' => e = .returned (.tuple #[.agg #[.string d.n, .int .i64 d.t, .int .i64 d.z, .bool d.u, .string c.n, .int .i64 c.t, .int .i64 c.z, .bool c.u, .nilFunc, .nilFunc, .bool false], .nilIface]) ∧ Below W.heap.size W w') :
    Calls Tryz.prog 13 #[.agg #[.string c.n, .int .i64 c.t, .int .i64 c.z, .bool c.u], .agg #[.string d.n, .int .i64 d.t, .int .i64 d.z, .bool d.u]] w fun e w' => e = .returned (.tuple #[.bool (false), .int .i64 0]) ∧ Below w.heap.size w w' := by
  have HE := Lib.hid (fun W (hb : Below w.heap.size w W) => (hE.keep hb).et)
  have HC := Lib.hid hC
  have HCS := Lib.hid (fun W => csure_none c d W)
  clear hE hC
  go_enter Tryz.func13, Tryz.ntmps13
  go_upto_region 1 with fail
  obtain ⟨W1, hW1⟩ : ∃ W1, (w.alloc (.cells #[.string c.n, .int .i64 c.t, .int .i64 c.z, .bool c.u] 24)).alloc (.cells #[.string d.n, .int .i64 d.t, .int .i64 d.z, .bool d.u] 24) = W1 := ⟨_, rfl⟩
  have hb1 : Below w.heap.size w W1 := by rw [← hW1]; exact ((Below.refl _ _).alloc (Nat.le_refl _) _).alloc (by simp) _
  have a0 : W1.cell? ⟨w.heap.size, 0, none⟩ = some (.string c.n) := by rw [← hW1]; simp [go_sem]
  have a1 : W1.cell? ⟨w.heap.size, 1, none⟩ = some (.int .i64 c.t) := by rw [← hW1]; simp [go_sem]
  have a2 : W1.cell? ⟨w.heap.size, 2, none⟩ = some (.int .i64 c.z) := by rw [← hW1]; simp [go_sem]
  have a3 : W1.cell? ⟨w.heap.size, 3, none⟩ = some (.bool c.u) := by rw [← hW1]; simp [go_sem]
  have b0 : W1.cell? ⟨w.heap.size + 1, 0, none⟩ = some (.string d.n) := by rw [← hW1]; simp [go_sem]
  have b1 : W1.cell? ⟨w.heap.size + 1, 1, none⟩ = some (.int .i64 d.t) := by rw [← hW1]; simp [go_sem]
  have b2 : W1.cell? ⟨w.heap.size + 1, 2, none⟩ = some (.int .i64 d.z) := by rw [← hW1]; simp [go_sem]
  have b3 : W1.cell? ⟨w.heap.size + 1, 3, none⟩ = some (.bool d.u) := by rw [← hW1]; simp [go_sem]
  rw [hW1]
  have HB1 := Lib.hid hb1
  clear hW1 hb1
  have hy1 : w.heap.size + 1 < W1.heap.size := World.block_lt_of_cell? _ _ b0
  have hy0 : w.heap.size < W1.heap.size := by omega
  have HS : Hid (∀ W, Below W1.heap.size W1 W → W.cell? ⟨w.heap.size, 0, none⟩ = some (.string c.n) ∧ W.cell? ⟨w.heap.size, 1, none⟩ = some (.int .i64 c.t) ∧ W.cell? ⟨w.heap.size, 2, none⟩ = some (.int .i64 c.z) ∧ W.cell? ⟨w.heap.size, 3, none⟩ = some (.bool c.u) ∧ W.cell? ⟨w.heap.size + 1, 0, none⟩ = some (.string d.n) ∧ W.cell? ⟨w.heap.size + 1, 1, none⟩ = some (.int .i64 d.t) ∧ W.cell? ⟨w.heap.size + 1, 2, none⟩ = some (.int .i64 d.z) ∧ W.cell? ⟨w.heap.size + 1, 3, none⟩ = some (.bool d.u) ∧ Below W1.heap.size W1 W) := Lib.hid (fun W hb => ⟨keep_cell hb a0, keep_cell hb a1, keep_cell hb a2, keep_cell hb a3, keep_cell hb b0, keep_cell hb b1, keep_cell hb b2, keep_cell hb b3, hb⟩)
  go_cut [6, 7] (fun s6 s7 wx => ∃ q, s6 = .pointer (some ⟨q, 0, none⟩) ∧ s7 = .nilIface ∧ W1.heap.size ≤ q ∧ wx.cell? ⟨q, 0, none⟩ = some (.string d.n) ∧ wx.cell? ⟨q, 1, none⟩ = some (.int .i64 d.t) ∧ wx.cell? ⟨q, 2, none⟩ = some (.int .i64 d.z) ∧ wx.cell? ⟨q, 3, none⟩ = some (.bool d.u) ∧ wx.cell? ⟨q, 4, none⟩ = some (.string c.n) ∧ wx.cell? ⟨q, 5, none⟩ = some (.int .i64 c.t) ∧ wx.cell? ⟨q, 6, none⟩ = some (.int .i64 c.z) ∧ wx.cell? ⟨q, 7, none⟩ = some (.bool c.u) ∧ wx.cell? ⟨q, 8, none⟩ = some (.nilFunc) ∧ wx.cell? ⟨q, 9, none⟩ = some (.nilFunc) ∧ wx.cell? ⟨q, 10, none⟩ = some (.bool false) ∧ Below W1.heap.size W1 wx)
  case first =>
    go_region_held3 (fun w' => w'.cell? ⟨w.heap.size, 0, none⟩ = some (.string c.n) ∧ w'.cell? ⟨w.heap.size, 1, none⟩ = some (.int .i64 c.t) ∧ w'.cell? ⟨w.heap.size, 2, none⟩ = some (.int .i64 c.z) ∧ w'.cell? ⟨w.heap.size, 3, none⟩ = some (.bool c.u) ∧ w'.cell? ⟨w.heap.size + 1, 0, none⟩ = some (.string d.n) ∧ w'.cell? ⟨w.heap.size + 1, 1, none⟩ = some (.int .i64 d.t) ∧ w'.cell? ⟨w.heap.size + 1, 2, none⟩ = some (.int .i64 d.z) ∧ w'.cell? ⟨w.heap.size + 1, 3, none⟩ = some (.bool d.u) ∧ Below W1.heap.size W1 w') ((refine HS.out _ ?_; go_split_ands; first | (with_reducible exact below_set11 (by assumption) (by first | exact Nat.le_refl _ | omega | (simp; omega)) _ _ _ _ _ _ _ _ _ _ _) | (with_reducible exact Below.drew (Below.refl _ _)) | (with_reducible exact held_trans (by assumption) hb4) | (with_reducible exact held_trans (by assumption) hb3) | (with_reducible exact below_realloc (by assumption) (by omega)) | (with_reducible exact Below.alloc (by assumption) (Below.size (by assumption)) _) | (with_reducible exact Below.alloc (Below.refl _ _) (Nat.le_refl _) _) | (with_reducible exact Below.alloc (Below.drew (Below.refl _ _)) (Nat.le_refl _) _) | (with_reducible exact Below.drew (Below.alloc (Below.refl _ _) (Nat.le_refl _) _)) | (with_reducible exact Below.drew (by assumption))))
      (first | (go_at_call 26; refine (known_any _).mono ?_; rintro e w3 ⟨rfl, ⟨es, cl, hm, hw⟩, hb3⟩; (first | have HM : Hid (w3.heap[W1.heap.size]? = some (.map es cl)) := Lib.hid hm | (replace hm := (show w3.heap[(W1.alloc (.cells #[.string ⟨#[]⟩, .int .i64 0, .int .i64 0, .bool false, .string ⟨#[]⟩, .int .i64 0, .int .i64 0, .bool false, .nilFunc, .nilFunc, .bool false] 80)).heap.size]? = some (.map es cl) from hm); rw [World.size_alloc] at hm; have HM : Hid (w3.heap[W1.heap.size + 1]? = some (.map es cl)) := Lib.hid hm)); have HW := Lib.hid hw; clear hm hw; have hz3 := hb3.size; (try simp at hz3); (try (first | have P := zero11 (b := W1.heap.size) hb3 rfl | have P := zero11d (b := W1.heap.size) hb3 rfl))) | (go_at_call 32; refine (HC.out _ _ _ _ (HB1.out.trans (Below.mono (by go_split_ands; first | assumption | (exact Below.alloc (by assumption) (Below.size (by assumption)) _)) HB1.out.size)) (by first | with_reducible exact HM.out | exact heap_old HM.out _) HW.out).mono ?_; rintro e w4 ⟨rfl, hb4⟩; have hz4 := hb4.size; (try simp at hz4); (first | have P := Zero11.keep P hb4 | have P := zero11 (b := w3.heap.size) hb4 rfl | skip); (try (have P4 := P; obtain ⟨p0, p1, p2, p3, p4, p5, p6, p7, p8, p9, p10, fp0, fp1, fp2, fp3, fp4, fp5, fp6, fp7, fp8, fp9, fp10, hpl⟩ := P))))
    all_goals go_wp2_with fail
    all_goals go_meet
    all_goals rename_i hh
    all_goals refine ⟨_, rfl, rfl, by omega, ?_⟩
    all_goals (first | refine ⟨by simp [go_sem], by simp [go_sem], by simp [go_sem], by simp [go_sem], by simp [go_sem], by simp [go_sem], by simp [go_sem], by simp [go_sem], by simp [go_sem], by simp [go_sem], by simp [go_sem], hh.2.2.2.2.2.2.2.2⟩ | (obtain ⟨k0, k1, k2, k3, k4, k5, k6, k7, k8, k9, k10⟩ := zero11_set P4 (.string d.n) (.int .i64 d.t) (.int .i64 d.z) (.bool d.u) (.string c.n) (.int .i64 c.t) (.int .i64 c.z) (.bool c.u) (.nilFunc) (.nilFunc) (.bool false); refine ⟨k0, k1, k2, k3, k4, k5, k6, k7, k8, k9, k10, hh.2.2.2.2.2.2.2.2⟩))
  case rest =>
    obtain ⟨q, rfl, rfl, hq, e0, e1, e2, e3, e4, e5, e6, e7, e8, e9, e10, hbx⟩ := hcut
    have HEZ := Lib.hid (HE.out wc (HB1.out.trans (hbx.mono HB1.out.size)))
    have HBX := Lib.hid (HB1.out.trans (hbx.mono HB1.out.size))
    clear hbx HS HC HE a0 a1 a2 a3 b0 b1 b2 b3
    go_wp2_with (first | (go_at_call 33; refine (HCS.out _).mono ?_; rintro e w5 ⟨rfl, hb5⟩) | (go_at_call 28; refine (xerrno_nil _).mono ?_; rintro e w6 ⟨rfl, hb6⟩))
    refine bodyPost_ret (v := .tuple #[.bool (false), .int .i64 0]) (by simp [results, Tryz.results13, go_sem]) rfl ⟨rfl, ?_⟩
    exact (HBX.out.trans (hb5.mono HBX.out.size)).trans (hb6.mono (Nat.le_trans HBX.out.size hb5.size))
set_option maxRecDepth 100000 in
set_option maxHeartbeats 8000000 in
theorem Sure_err (c d : Col) (w : World) (hE : Env w) (n : Int) (hC : ∀ r es cl W, Below w.heap.size w W → W.heap[r]? = some (.map es cl) → IsWays es → Calls Tryz.prog 32 #[.map (some r), .agg #[.string c.n, .int .i64 c.t, .int .i64 c.z, .bool c.u], .agg #[.string d.n, .int .i64 d.t, .int .i64 d.z, .bool d.u]] W fun e w' => ∃ b, e = .returned (.tuple #[.agg #[.string ⟨#[]⟩, .int .i64 0, .int .i64 0, .bool false, .string ⟨#[]⟩, .int .i64 0, .int .i64 0, .bool false, .nilFunc, .nilFunc, .bool false], .iface 147 (.pointer (some ⟨b, 0, none⟩))]) ∧ W.heap.size ≤ b ∧ w'.cell? ⟨b, 1, none⟩ = some (.int .i64 n) ∧ Below W.heap.size W w') :
    Calls Tryz.prog 13 #[.agg #[.string c.n, .int .i64 c.t, .int .i64 c.z, .bool c.u], .agg #[.string d.n, .int .i64 d.t, .int .i64 d.z, .bool d.u]] w fun e w' => e = .returned (.tuple #[.bool (false), .int .i64 n]) ∧ Below w.heap.size w w' := by
  have HE := Lib.hid (fun W (hb : Below w.heap.size w W) => (hE.keep hb).et)
  have HC := Lib.hid hC
  have HCS := Lib.hid (fun W => csure_none ⟨⟨#[]⟩, 0, 0, false⟩ ⟨⟨#[]⟩, 0, 0, false⟩ W)
  clear hE hC
  go_enter Tryz.func13, Tryz.ntmps13
  go_upto_region 1 with fail
  obtain ⟨W1, hW1⟩ : ∃ W1, (w.alloc (.cells #[.string c.n, .int .i64 c.t, .int .i64 c.z, .bool c.u] 24)).alloc (.cells #[.string d.n, .int .i64 d.t, .int .i64 d.z, .bool d.u] 24) = W1 := ⟨_, rfl⟩
  have hb1 : Below w.heap.size w W1 := by rw [← hW1]; exact ((Below.refl _ _).alloc (Nat.le_refl _) _).alloc (by simp) _
  have a0 : W1.cell? ⟨w.heap.size, 0, none⟩ = some (.string c.n) := by rw [← hW1]; simp [go_sem]
  have a1 : W1.cell? ⟨w.heap.size, 1, none⟩ = some (.int .i64 c.t) := by rw [← hW1]; simp [go_sem]
  have a2 : W1.cell? ⟨w.heap.size, 2, none⟩ = some (.int .i64 c.z) := by rw [← hW1]; simp [go_sem]
  have a3 : W1.cell? ⟨w.heap.size, 3, none⟩ = some (.bool c.u) := by rw [← hW1]; simp [go_sem]
  have b0 : W1.cell? ⟨w.heap.size + 1, 0, none⟩ = some (.string d.n) := by rw [← hW1]; simp [go_sem]
  have b1 : W1.cell? ⟨w.heap.size + 1, 1, none⟩ = some (.int .i64 d.t) := by rw [← hW1]; simp [go_sem]
  have b2 : W1.cell? ⟨w.heap.size + 1, 2, none⟩ = some (.int .i64 d.z) := by rw [← hW1]; simp [go_sem]
  have b3 : W1.cell? ⟨w.heap.size + 1, 3, none⟩ = some (.bool d.u) := by rw [← hW1]; simp [go_sem]
  rw [hW1]
  have HB1 := Lib.hid hb1
  clear hW1 hb1
  have hy1 : w.heap.size + 1 < W1.heap.size := World.block_lt_of_cell? _ _ b0
  have hy0 : w.heap.size < W1.heap.size := by omega
  have HS : Hid (∀ W, Below W1.heap.size W1 W → W.cell? ⟨w.heap.size, 0, none⟩ = some (.string c.n) ∧ W.cell? ⟨w.heap.size, 1, none⟩ = some (.int .i64 c.t) ∧ W.cell? ⟨w.heap.size, 2, none⟩ = some (.int .i64 c.z) ∧ W.cell? ⟨w.heap.size, 3, none⟩ = some (.bool c.u) ∧ W.cell? ⟨w.heap.size + 1, 0, none⟩ = some (.string d.n) ∧ W.cell? ⟨w.heap.size + 1, 1, none⟩ = some (.int .i64 d.t) ∧ W.cell? ⟨w.heap.size + 1, 2, none⟩ = some (.int .i64 d.z) ∧ W.cell? ⟨w.heap.size + 1, 3, none⟩ = some (.bool d.u) ∧ Below W1.heap.size W1 W) := Lib.hid (fun W hb => ⟨keep_cell hb a0, keep_cell hb a1, keep_cell hb a2, keep_cell hb a3, keep_cell hb b0, keep_cell hb b1, keep_cell hb b2, keep_cell hb b3, hb⟩)
  go_cut [6, 7] (fun s6 s7 wx => ∃ q b, s6 = .pointer (some ⟨q, 0, none⟩) ∧ s7 = .iface 147 (.pointer (some ⟨b, 0, none⟩)) ∧ W1.heap.size ≤ q ∧ wx.cell? ⟨q, 0, none⟩ = some (.string ⟨#[]⟩) ∧ wx.cell? ⟨q, 1, none⟩ = some (.int .i64 0) ∧ wx.cell? ⟨q, 2, none⟩ = some (.int .i64 0) ∧ wx.cell? ⟨q, 3, none⟩ = some (.bool false) ∧ wx.cell? ⟨q, 4, none⟩ = some (.string ⟨#[]⟩) ∧ wx.cell? ⟨q, 5, none⟩ = some (.int .i64 0) ∧ wx.cell? ⟨q, 6, none⟩ = some (.int .i64 0) ∧ wx.cell? ⟨q, 7, none⟩ = some (.bool false) ∧ wx.cell? ⟨q, 8, none⟩ = some (.nilFunc) ∧ wx.cell? ⟨q, 9, none⟩ = some (.nilFunc) ∧ wx.cell? ⟨q, 10, none⟩ = some (.bool false) ∧ wx.cell? ⟨b, 1, none⟩ = some (.int .i64 n) ∧ Below W1.heap.size W1 wx)
  case first =>
    go_region_held3 (fun w' => w'.cell? ⟨w.heap.size, 0, none⟩ = some (.string c.n) ∧ w'.cell? ⟨w.heap.size, 1, none⟩ = some (.int .i64 c.t) ∧ w'.cell? ⟨w.heap.size, 2, none⟩ = some (.int .i64 c.z) ∧ w'.cell? ⟨w.heap.size, 3, none⟩ = some (.bool c.u) ∧ w'.cell? ⟨w.heap.size + 1, 0, none⟩ = some (.string d.n) ∧ w'.cell? ⟨w.heap.size + 1, 1, none⟩ = some (.int .i64 d.t) ∧ w'.cell? ⟨w.heap.size + 1, 2, none⟩ = some (.int .i64 d.z) ∧ w'.cell? ⟨w.heap.size + 1, 3, none⟩ = some (.bool d.u) ∧ Below W1.heap.size W1 w') ((refine HS.out _ ?_; go_split_ands; first | (with_reducible exact below_set11 (by assumption) (by first | exact Nat.le_refl _ | omega | (simp; omega)) _ _ _ _ _ _ _ _ _ _ _) | (with_reducible exact Below.drew (Below.refl _ _)) | (with_reducible exact held_trans (by assumption) hb4) | (with_reducible exact held_trans (by assumption) hb3) | (with_reducible exact below_realloc (by assumption) (by omega)) | (with_reducible exact Below.alloc (by assumption) (Below.size (by assumption)) _) | (with_reducible exact Below.alloc (Below.refl _ _) (Nat.le_refl _) _) | (with_reducible exact Below.alloc (Below.drew (Below.refl _ _)) (Nat.le_refl _) _) | (with_reducible exact Below.drew (Below.alloc (Below.refl _ _) (Nat.le_refl _) _)) | (with_reducible exact Below.drew (by assumption))))
      (first | (go_at_call 26; refine (known_any _).mono ?_; rintro e w3 ⟨rfl, ⟨es, cl, hm, hw⟩, hb3⟩; (first | have HM : Hid (w3.heap[W1.heap.size]? = some (.map es cl)) := Lib.hid hm | (replace hm := (show w3.heap[(W1.alloc (.cells #[.string ⟨#[]⟩, .int .i64 0, .int .i64 0, .bool false, .string ⟨#[]⟩, .int .i64 0, .int .i64 0, .bool false, .nilFunc, .nilFunc, .bool false] 80)).heap.size]? = some (.map es cl) from hm); rw [World.size_alloc] at hm; have HM : Hid (w3.heap[W1.heap.size + 1]? = some (.map es cl)) := Lib.hid hm)); have HW := Lib.hid hw; clear hm hw; have hz3 := hb3.size; (try simp at hz3); (try (first | have P := zero11 (b := W1.heap.size) hb3 rfl | have P := zero11d (b := W1.heap.size) hb3 rfl))) | (go_at_call 32; refine (HC.out _ _ _ _ (HB1.out.trans (Below.mono (by go_split_ands; first | assumption | (exact Below.alloc (by assumption) (Below.size (by assumption)) _)) HB1.out.size)) (by first | with_reducible exact HM.out | exact heap_old HM.out _) HW.out).mono ?_; rintro e w4 ⟨b, rfl, hbz, hnb, hb4⟩; have hz4 := hb4.size; (try simp at hz4); (try simp at hbz); have HCB := Lib.hid hnb; clear hnb; (first | have P := Zero11.keep P hb4 | have P := zero11 (b := w3.heap.size) hb4 rfl | skip); (try (have P4 := P; obtain ⟨p0, p1, p2, p3, p4, p5, p6, p7, p8, p9, p10, fp0, fp1, fp2, fp3, fp4, fp5, fp6, fp7, fp8, fp9, fp10, hpl⟩ := P))))
    all_goals go_wp2_with fail
    all_goals go_meet
    all_goals rename_i hh
    all_goals refine ⟨_, b, rfl, rfl, by omega, ?_⟩
    all_goals (first | refine ⟨by simp [go_sem], by simp [go_sem], by simp [go_sem], by simp [go_sem], by simp [go_sem], by simp [go_sem], by simp [go_sem], by simp [go_sem], by simp [go_sem], by simp [go_sem], by simp [go_sem], ?_, hh.2.2.2.2.2.2.2.2⟩ | (obtain ⟨k0, k1, k2, k3, k4, k5, k6, k7, k8, k9, k10⟩ := zero11_set P4 (.string ⟨#[]⟩) (.int .i64 0) (.int .i64 0) (.bool false) (.string ⟨#[]⟩) (.int .i64 0) (.int .i64 0) (.bool false) (.nilFunc) (.nilFunc) (.bool false); refine ⟨k0, k1, k2, k3, k4, k5, k6, k7, k8, k9, k10, ?_, hh.2.2.2.2.2.2.2.2⟩))
    all_goals (first | with_reducible exact (far11 (by omega) _ _ _ _ _ _ _ _ _ _ _).trans HCB.out | exact (World.cell?_alloc_lt _ _ _ (cell_lt HCB.out)).trans HCB.out)
  case rest =>
    obtain ⟨q, b, rfl, rfl, hq, e0, e1, e2, e3, e4, e5, e6, e7, e8, e9, e10, hnb, hbx⟩ := hcut
    have HEZ := Lib.hid (HE.out wc (HB1.out.trans (hbx.mono HB1.out.size)))
    have HBX := Lib.hid (HB1.out.trans (hbx.mono HB1.out.size))
    have HNB := Lib.hid hnb
    clear hbx hnb HS HC HE a0 a1 a2 a3 b0 b1 b2 b3
    go_wp2_with (first | (go_at_call 33; refine (HCS.out _).mono ?_; rintro e w5 ⟨rfl, hb5⟩) | (go_at_call 28; refine (xerrno_err b n _ (HEZ.out.below hb5 HEZ.out.lt) (keep_cell hb5 HNB.out)).mono ?_; rintro e w6 ⟨rfl, hb6⟩))
    refine bodyPost_ret (v := .tuple #[.bool (false), .int .i64 n]) (by simp [results, Tryz.results13, go_sem]) rfl ⟨rfl, ?_⟩
    exact (HBX.out.trans (hb5.mono HBX.out.size)).trans (hb6.mono (Nat.le_trans HBX.out.size hb5.size))
end Go.Proofs.YtmgeefhacnadcaaGreatDoor
namespace Go.Proofs.YtmgeefhacnadcaaGreatDoor
open Go.RowKit

theorem call_inG (a b : Int) (f g : Nat) (hx : (a, b, f, g) ∈ waysL) (l : Array Value) (W : World) : (callFunc g l).run Tryz.prog W = .ok (.enter g l) W := by
  simp only [waysL, List.mem_cons, List.not_mem_nil, or_false, Prod.mk.injEq] at hx
  rcases hx with ⟨rfl, rfl, rfl, rfl⟩ | ⟨rfl, rfl, rfl, rfl⟩ | ⟨rfl, rfl, rfl, rfl⟩ | ⟨rfl, rfl, rfl, rfl⟩ | ⟨rfl, rfl, rfl, rfl⟩ | ⟨rfl, rfl, rfl, rfl⟩ | ⟨rfl, rfl, rfl, rfl⟩ | ⟨rfl, rfl, rfl, rfl⟩ | ⟨rfl, rfl, rfl, rfl⟩ | ⟨rfl, rfl, rfl, rfl⟩ | ⟨rfl, rfl, rfl, rfl⟩ | ⟨rfl, rfl, rfl, rfl⟩ | ⟨rfl, rfl, rfl, rfl⟩ | ⟨rfl, rfl, rfl, rfl⟩
  all_goals kernel_rfl
/-- is a way from one type and size to another one sure? -/
def sgB (a b z y : Int) : Bool :=
  if a = b then decide (z ≤ y)
  else if b = 4 then (if a = 1 then decide (digN 1 z ≤ y) else decide (digN 2 z ≤ y))
  else if a = 2 ∧ b = 1 then decide (z < y)
  else decide (a = 3)
theorem sg_any (a b z y : Int) (f g : Nat) (hx : (a, b, f, g) ∈ waysL) (hz : a = 1 ∨ a = 2 → numSz z = true) (W : World) (hT : HasTab W) :
    Calls Tryz.prog g #[.int .i64 z, .int .i64 y] W fun e w' => e = .returned (.bool (sgB a b z y)) ∧ Below W.heap.size W w' := by
  simp only [waysL, List.mem_cons, List.not_mem_nil, or_false, Prod.mk.injEq] at hx
  rcases hx with ⟨rfl, rfl, rfl, rfl⟩ | ⟨rfl, rfl, rfl, rfl⟩ | ⟨rfl, rfl, rfl, rfl⟩ | ⟨rfl, rfl, rfl, rfl⟩ | ⟨rfl, rfl, rfl, rfl⟩ | ⟨rfl, rfl, rfl, rfl⟩ | ⟨rfl, rfl, rfl, rfl⟩ | ⟨rfl, rfl, rfl, rfl⟩ | ⟨rfl, rfl, rfl, rfl⟩ | ⟨rfl, rfl, rfl, rfl⟩ | ⟨rfl, rfl, rfl, rfl⟩ | ⟨rfl, rfl, rfl, rfl⟩ | ⟨rfl, rfl, rfl, rfl⟩ | ⟨rfl, rfl, rfl, rfl⟩
  · rw [show sgB 1 1 z y = decide (z ≤ y) from rfl]
    exact noLess_any z y W
  · rw [show sgB 1 2 z y = false from rfl]
    exact never_any z y W
  · rw [show sgB 1 3 z y = false from rfl]
    exact never_any z y W
  · rw [show sgB 1 4 z y = decide (digN 1 z ≤ y) from rfl]
    exact holdsInts_any z y W hT (hz (.inl rfl))
  · rw [show sgB 2 1 z y = decide (z < y) from rfl]
    exact greater_any z y W
  · rw [show sgB 2 2 z y = decide (z ≤ y) from rfl]
    exact noLess_any z y W
  · rw [show sgB 2 3 z y = false from rfl]
    exact never_any z y W
  · rw [show sgB 2 4 z y = decide (digN 2 z ≤ y) from rfl]
    exact holdsUints_any z y W hT (hz (.inr rfl))
  · rw [show sgB 3 1 z y = true from rfl]
    exact always_any z y W
  · rw [show sgB 3 2 z y = true from rfl]
    exact always_any z y W
  · rw [show sgB 3 3 z y = decide (z ≤ y) from rfl]
    exact noLess_any z y W
  · rw [show sgB 4 1 z y = false from rfl]
    exact never_any z y W
  · rw [show sgB 4 2 z y = false from rfl]
    exact never_any z y W
  · rw [show sgB 4 4 z y = decide (z ≤ y) from rfl]
    exact noLess_any z y W
theorem col_num {c : Col} (h : colOk c = true) (ht : c.t = 1 ∨ c.t = 2) : numSz c.z = true := by
  unfold colOk at h
  rw [Bool.and_eq_true] at h
  have h1 := h.1
  unfold szOk at h1
  split at h1
  · exact h1
  · rename_i h0; exact absurd ht h0
/-- the number and the answer of Sure -/
def sureO (c d : Col) : Int × Bool := if colOk c = false ∨ colOk d = false then (2, false) else (0, wayB c.t d.t && ((d.u || !c.u) && sgB c.t d.t c.z d.z))
theorem Sure_any (c d : Col) (w : World) (hE : Env w) (n1 : c.n.size ≤ 9223372036854775807) (n2 : d.n.size ≤ 9223372036854775807) :
    Calls Tryz.prog 13 #[.agg #[.string c.n, .int .i64 c.t, .int .i64 c.z, .bool c.u], .agg #[.string d.n, .int .i64 d.t, .int .i64 d.z, .bool d.u]] w fun e w' => e = .returned (.tuple #[.bool (sureO c d).2, .int .i64 (sureO c d).1]) ∧ Below w.heap.size w w' := by
  unfold sureO
  cases h1 : colOk c
  · rw [if_pos (.inl rfl)]
    exact Sure_err c d w hE 2 (fun r _ _ W hb _ _ => between_bad1 c d r W (hE.keep hb) n1 h1)
  cases h2 : colOk d
  · rw [if_pos (.inr rfl)]
    exact Sure_err c d w hE 2 (fun r _ _ W hb _ _ => between_bad2 c d r W (hE.keep hb) n1 n2 h1 h2)
  rw [if_neg (by simp)]
  cases hwy : wayB c.t d.t
  · exact Sure_none c d w hE (fun r es cl W hb hm hw => between_ok_none c d r W (hE.keep hb) n1 n2 h1 h2 es cl hm (fun W' hm' => ways_none (ways_out hwy) hm' hw))
  · obtain ⟨f, g, hx⟩ := ways_in (col_types h1) (col_types h2) hwy
    rw [Bool.true_and]
    exact Sure_some c d w hE f g (call_inG _ _ f g hx) _ (fun W hb => sg_any c.t d.t c.z d.z f g hx (col_num h1) W (hE.keep hb).tab) (fun r es cl W hb hm hw => between_ok_found c d r W (hE.keep hb) n1 n2 h1 h2 f g es cl hm (fun W' hm' => ways_found hx hm' hw))
end Go.Proofs.YtmgeefhacnadcaaGreatDoor
