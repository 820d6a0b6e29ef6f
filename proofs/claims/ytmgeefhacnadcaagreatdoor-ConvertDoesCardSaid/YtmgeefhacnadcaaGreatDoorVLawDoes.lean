/-
  swingbridgelaw06.ConvertDoes: true.
-/
import Derived.Test.YtmgeefhacnadcaaGreatDoorVWorks
import Derived.Test.YtmgeefhacnadcaaGreatDoorVRCv
import Derived.Test.YtmgeefhacnadcaaGreatDoorVHlds
namespace Go.Proofs.YtmgeefhacnadcaaGreatDoor
open Go.RowKit

set_option maxRecDepth 100000 in
set_option maxHeartbeats 8000000 in
theorem lawD6_true (c d : Col) (v : Vl) (w : World) (hE : Env w) (n1 : c.n.size ≤ 9223372036854775807) (n2 : d.n.size ≤ 9223372036854775807) (n3 : v.s.size ≤ 9223372036854775807) (hv : v.s.size ≤ 300 → v.ok) :
    Calls Tryz.prog 3 #[.agg #[.string c.n, .int .i64 c.t, .int .i64 c.z, .bool c.u], .agg #[.string d.n, .int .i64 d.t, .int .i64 d.z, .bool d.u], .agg #[.int .i64 v.k, .int .i64 v.i, .int .u64 v.u, .string v.s]] w fun e w' => e = .returned (.bool true) ∧ Below w.heap.size w w' := by
  have HE := Lib.hid (fun W (hb : Below w.heap.size w W) => hE.keep hb)
  clear hE
  go_enter Tryz.func3, Tryz.ntmps3
  go_upto_region 1 with fail
  obtain ⟨W1, hW1⟩ : ∃ W1, (((w.alloc (.cells #[.string c.n, .int .i64 c.t, .int .i64 c.z, .bool c.u] 24)).alloc (.cells #[.string d.n, .int .i64 d.t, .int .i64 d.z, .bool d.u] 24)).alloc (.cells #[.int .i64 v.k, .int .i64 v.i, .int .u64 v.u, .string v.s] 28)) = W1 := ⟨_, rfl⟩
  have hb1 : Below w.heap.size w W1 := by rw [← hW1]; exact (((Below.refl _ _).alloc (Nat.le_refl _) _).alloc (by simp) _).alloc (by simp; omega) _
  have a0 : W1.cell? ⟨w.heap.size, 0, none⟩ = some (.string c.n) := by rw [← hW1]; simp [go_sem]
  have a1 : W1.cell? ⟨w.heap.size, 1, none⟩ = some (.int .i64 c.t) := by rw [← hW1]; simp [go_sem]
  have a2 : W1.cell? ⟨w.heap.size, 2, none⟩ = some (.int .i64 c.z) := by rw [← hW1]; simp [go_sem]
  have a3 : W1.cell? ⟨w.heap.size, 3, none⟩ = some (.bool c.u) := by rw [← hW1]; simp [go_sem]
  have b0 : W1.cell? ⟨w.heap.size + 1, 0, none⟩ = some (.string d.n) := by rw [← hW1]; simp [go_sem]
  have b1 : W1.cell? ⟨w.heap.size + 1, 1, none⟩ = some (.int .i64 d.t) := by rw [← hW1]; simp [go_sem]
  have b2 : W1.cell? ⟨w.heap.size + 1, 2, none⟩ = some (.int .i64 d.z) := by rw [← hW1]; simp [go_sem]
  have b3 : W1.cell? ⟨w.heap.size + 1, 3, none⟩ = some (.bool d.u) := by rw [← hW1]; simp [go_sem]
  have v0 : W1.cell? ⟨w.heap.size + 1 + 1, 0, none⟩ = some (.int .i64 v.k) := by rw [← hW1]; simp [go_sem]
  have v1 : W1.cell? ⟨w.heap.size + 1 + 1, 1, none⟩ = some (.int .i64 v.i) := by rw [← hW1]; simp [go_sem]
  have v2 : W1.cell? ⟨w.heap.size + 1 + 1, 2, none⟩ = some (.int .u64 v.u) := by rw [← hW1]; simp [go_sem]
  have v3 : W1.cell? ⟨w.heap.size + 1 + 1, 3, none⟩ = some (.string v.s) := by rw [← hW1]; simp [go_sem]
  rw [hW1]
  have HB1 := Lib.hid hb1
  clear hW1 hb1
  have HSB : Hid (∀ W, Below W1.heap.size W1 W → W.cell? ⟨w.heap.size, 0, none⟩ = some (.string c.n) ∧ W.cell? ⟨w.heap.size, 1, none⟩ = some (.int .i64 c.t) ∧ W.cell? ⟨w.heap.size, 2, none⟩ = some (.int .i64 c.z) ∧ W.cell? ⟨w.heap.size, 3, none⟩ = some (.bool c.u) ∧ W.cell? ⟨w.heap.size + 1, 0, none⟩ = some (.string d.n) ∧ W.cell? ⟨w.heap.size + 1, 1, none⟩ = some (.int .i64 d.t) ∧ W.cell? ⟨w.heap.size + 1, 2, none⟩ = some (.int .i64 d.z) ∧ W.cell? ⟨w.heap.size + 1, 3, none⟩ = some (.bool d.u) ∧ W.cell? ⟨w.heap.size + 1 + 1, 0, none⟩ = some (.int .i64 v.k) ∧ W.cell? ⟨w.heap.size + 1 + 1, 1, none⟩ = some (.int .i64 v.i) ∧ W.cell? ⟨w.heap.size + 1 + 1, 2, none⟩ = some (.int .u64 v.u) ∧ W.cell? ⟨w.heap.size + 1 + 1, 3, none⟩ = some (.string v.s)) := Lib.hid (fun W hb => ⟨keep_cell hb a0, keep_cell hb a1, keep_cell hb a2, keep_cell hb a3, keep_cell hb b0, keep_cell hb b1, keep_cell hb b2, keep_cell hb b3, keep_cell hb v0, keep_cell hb v1, keep_cell hb v2, keep_cell hb v3⟩)
  have HSH : Hid (∀ (x : Col) W, Below W1.heap.size W1 W → Calls Tryz.prog 8 #[.agg #[.string x.n, .int .i64 x.t, .int .i64 x.z, .bool x.u]] W fun e w' => e = .returned (.bool (decide ((x.n.size : Int) ≤ 40))) ∧ Below W1.heap.size W1 w') := Lib.hid (fun x W hb => (l6short_any x W).mono fun _ _ h => ⟨h.1, hb.trans (h.2.mono hb.size)⟩)
  have HWK : Hid (∀ W, Below W1.heap.size W1 W → Calls Tryz.prog 9 #[] W fun e w' => e = .returned (.bool true) ∧ Below W1.heap.size W1 w') := Lib.hid (fun W hb => (l6works_true W (HE.out W (HB1.out.trans (hb.mono HB1.out.size)))).mono fun _ _ h => ⟨h.1, hb.trans (h.2.mono hb.size)⟩)
  have HWR : Hid (∀ W, Below W1.heap.size W1 W → Calls Tryz.prog 9 #[] W fun e w' => e = .returned (.bool true) ∧ Below W.heap.size W w') := Lib.hid (fun W hb => l6works_true W (HE.out W (HB1.out.trans (hb.mono HB1.out.size))))
  have hB := Below.refl W1.heap.size W1
  by_cases hsm : c.n.size ≤ 40 ∧ d.n.size ≤ 40 ∧ v.s.size ≤ 300
  · obtain ⟨s1, s2, s3⟩ := hsm
    have hv := hv s3
    have S1 : decide ((c.n.size : Int) ≤ 40) = true := decide_eq_true (by omega)
    have S2 : decide ((d.n.size : Int) ≤ 40) = true := decide_eq_true (by omega)
    have S3 : decide ((300 : Int) < (v.s.size : Int)) = false := decide_eq_false (by omega)
    have HC1 : Hid (∀ W, Below W1.heap.size W1 W → Calls Tryz.prog 10 #[.agg #[.string c.n, .int .i64 c.t, .int .i64 c.z, .bool c.u], .agg #[.string d.n, .int .i64 d.t, .int .i64 d.z, .bool d.u], .agg #[.int .i64 v.k, .int .i64 v.i, .int .u64 v.u, .string v.s]] W fun e w' => e = .returned (.tuple #[.agg #[.int .i64 (cvO c d v).2.k, .int .i64 (cvO c d v).2.i, .int .u64 (cvO c d v).2.u, .string (cvO c d v).2.s], .int .i64 (cvO c d v).1]) ∧ Below W1.heap.size W1 w') := Lib.hid (fun W hb => (Convert_any c d v W (HE.out W (HB1.out.trans (hb.mono HB1.out.size))) n1 n2 hv).mono fun _ _ h => ⟨h.1, hb.trans (h.2.mono hb.size)⟩)
    have HC2 : Hid (∀ W, Below W1.heap.size W1 W → Calls Tryz.prog 11 #[.agg #[.string c.n, .int .i64 c.t, .int .i64 c.z, .bool c.u], .agg #[.string d.n, .int .i64 d.t, .int .i64 d.z, .bool d.u], .agg #[.int .i64 v.k, .int .i64 v.i, .int .u64 v.u, .string v.s]] W fun e w' => e = .returned (.tuple #[.agg #[.int .i64 (cvO c d v).2.k, .int .i64 (cvO c d v).2.i, .int .u64 (cvO c d v).2.u, .string (cvO c d v).2.s], .int .i64 (cvO c d v).1]) ∧ Below W.heap.size W w') := Lib.hid (fun W hb => r6Convert_any c d v W (HE.out W (HB1.out.trans (hb.mono HB1.out.size))) n1 n2 hv)
    clear hv
    generalize cvO c d v = cx at HC1 HC2
    obtain ⟨cn, x⟩ := cx
    dsimp only at HC1 HC2
    go_wp2_with (first | (go_at_call 8; (with_reducible refine (HSH.out _ _ hB).mono ?_); rintro e w' ⟨rfl, hB⟩; obtain ⟨a0, a1, a2, a3, b0, b1, b2, b3, v0, v1, v2, v3⟩ := HSB.out _ hB))
    refine (HC1.out _ hB).mono ?_
    rintro e w4 ⟨rfl, hB4⟩
    clear a0 a1 a2 a3 b0 b1 b2 b3 v0 v1 v2 v3
    obtain ⟨a0, a1, a2, a3, b0, b1, b2, b3, v0, v1, v2, v3⟩ := HSB.out _ hB4
    clear hB
    go_upto_region 4 with fail
    obtain ⟨W5, hW5⟩ : ∃ W, w4.alloc (.cells #[.int .i64 x.k, .int .i64 x.i, .int .u64 x.u, .string x.s] 28) = W := ⟨_, rfl⟩
    have hb : Below w4.heap.size w4 W5 := by rw [← hW5]; exact (Below.refl _ _).alloc (Nat.le_refl _) _
    replace a0 := keep_cell hb a0
    replace a1 := keep_cell hb a1
    replace a2 := keep_cell hb a2
    replace a3 := keep_cell hb a3
    replace b0 := keep_cell hb b0
    replace b1 := keep_cell hb b1
    replace b2 := keep_cell hb b2
    replace b3 := keep_cell hb b3
    replace v0 := keep_cell hb v0
    replace v1 := keep_cell hb v1
    replace v2 := keep_cell hb v2
    replace v3 := keep_cell hb v3
    have x0 : W5.cell? ⟨w4.heap.size, 0, none⟩ = some (.int .i64 x.k) := by rw [← hW5]; simp [go_sem]
    have x1 : W5.cell? ⟨w4.heap.size, 1, none⟩ = some (.int .i64 x.i) := by rw [← hW5]; simp [go_sem]
    have x2 : W5.cell? ⟨w4.heap.size, 2, none⟩ = some (.int .u64 x.u) := by rw [← hW5]; simp [go_sem]
    have x3 : W5.cell? ⟨w4.heap.size, 3, none⟩ = some (.string x.s) := by rw [← hW5]; simp [go_sem]
    rw [hW5]
    replace hB4 := held_trans hB4 hb
    clear hW5 hb
    go_wp2_with fail
    refine (HC2.out _ hB4).mono ?_
    rintro e w6 ⟨rfl, hb⟩
    replace a0 := keep_cell hb a0
    replace a1 := keep_cell hb a1
    replace a2 := keep_cell hb a2
    replace a3 := keep_cell hb a3
    replace b0 := keep_cell hb b0
    replace b1 := keep_cell hb b1
    replace b2 := keep_cell hb b2
    replace b3 := keep_cell hb b3
    replace v0 := keep_cell hb v0
    replace v1 := keep_cell hb v1
    replace v2 := keep_cell hb v2
    replace v3 := keep_cell hb v3
    replace x0 := keep_cell hb x0
    replace x1 := keep_cell hb x1
    replace x2 := keep_cell hb x2
    replace x3 := keep_cell hb x3
    replace hB4 := held_trans hB4 hb
    clear hb
    go_upto_region 5 with fail
    obtain ⟨W7, hW7⟩ : ∃ W, w6.alloc (.cells #[.int .i64 x.k, .int .i64 x.i, .int .u64 x.u, .string x.s] 28) = W := ⟨_, rfl⟩
    have hb : Below w6.heap.size w6 W7 := by rw [← hW7]; exact (Below.refl _ _).alloc (Nat.le_refl _) _
    replace a0 := keep_cell hb a0
    replace a1 := keep_cell hb a1
    replace a2 := keep_cell hb a2
    replace a3 := keep_cell hb a3
    replace b0 := keep_cell hb b0
    replace b1 := keep_cell hb b1
    replace b2 := keep_cell hb b2
    replace b3 := keep_cell hb b3
    replace v0 := keep_cell hb v0
    replace v1 := keep_cell hb v1
    replace v2 := keep_cell hb v2
    replace v3 := keep_cell hb v3
    replace x0 := keep_cell hb x0
    replace x1 := keep_cell hb x1
    replace x2 := keep_cell hb x2
    replace x3 := keep_cell hb x3
    have z0 : W7.cell? ⟨w6.heap.size, 0, none⟩ = some (.int .i64 x.k) := by rw [← hW7]; simp [go_sem]
    have z1 : W7.cell? ⟨w6.heap.size, 1, none⟩ = some (.int .i64 x.i) := by rw [← hW7]; simp [go_sem]
    have z2 : W7.cell? ⟨w6.heap.size, 2, none⟩ = some (.int .u64 x.u) := by rw [← hW7]; simp [go_sem]
    have z3 : W7.cell? ⟨w6.heap.size, 3, none⟩ = some (.string x.s) := by rw [← hW7]; simp [go_sem]
    rw [hW7]
    replace hB4 := held_trans hB4 hb
    clear hW7 hb
    have hev := eql_same x
    have hcn : (cn == cn) = true := by simp
    go_wp2_with (first | (go_at_call 12; refine (l6num_any _ _).mono ?_; rintro e w' ⟨rfl, rfl⟩) | (go_at_call 9; refine (HWK.out _ hB4).mono ?_; rintro e w9 ⟨rfl, hB9⟩))
    go_ret
    exact ⟨rfl, HB1.out.trans (hB9.mono HB1.out.size)⟩
  · have hdis : 40 < c.n.size ∨ 40 < d.n.size ∨ 300 < v.s.size := by omega
    clear hsm hv
    go_wp2_with (first | (go_at_call 8; (with_reducible refine (HSH.out _ _ hB).mono ?_); rintro e w' ⟨rfl, hB⟩; obtain ⟨a0, a1, a2, a3, b0, b1, b2, b3, v0, v1, v2, v3⟩ := HSB.out _ hB) | (go_at_call 9; (with_reducible refine (HWK.out _ hB).mono ?_); rintro e w' ⟨rfl, hB⟩; obtain ⟨a0, a1, a2, a3, b0, b1, b2, b3, v0, v1, v2, v3⟩ := HSB.out _ hB))
    all_goals first
      | (exfalso; omega)
      | (go_ret; exact ⟨rfl, HB1.out.trans (hB.mono HB1.out.size)⟩)
end Go.Proofs.YtmgeefhacnadcaaGreatDoor
