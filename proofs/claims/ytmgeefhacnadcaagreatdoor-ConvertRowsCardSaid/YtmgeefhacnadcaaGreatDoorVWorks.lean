/-
  swingbridgelaw06.works: the chapter's rows.
-/
import Derived.Test.YtmgeefhacnadcaaGreatDoorVFew
import Derived.Test.YtmgeefhacnadcaaGreatDoorVSur
import Derived.Test.YtmgeefhacnadcaaGreatDoorBelowQ
namespace Go.Proofs.YtmgeefhacnadcaaGreatDoor
open Go.RowKit

theorem does_v0 : doesV ⟨⟨#[97]⟩, 1, 2, false⟩ ⟨⟨#[97]⟩, 2, 1, false⟩ ⟨1, 255, 0, ⟨#[]⟩⟩ = ⟨2, 0, 255, ⟨#[]⟩⟩ := by kernel_rfl
theorem does_c0 (w : World) (hE : Env w) : Calls Tryz.prog 23 #[.agg #[.string ⟨#[97]⟩, .int .i64 1, .int .i64 2, .bool false], .agg #[.string ⟨#[97]⟩, .int .i64 2, .int .i64 1, .bool false], .agg #[.int .i64 1, .int .i64 255, .int .u64 0, .string ⟨#[]⟩]] w fun e w' => e = .returned (.agg #[.int .i64 2, .int .i64 0, .int .u64 255, .string ⟨#[]⟩]) ∧ Below w.heap.size w w' := by
  have h := does_any ⟨⟨#[97]⟩, 1, 2, false⟩ ⟨⟨#[97]⟩, 2, 1, false⟩ ⟨1, 255, 0, ⟨#[]⟩⟩ w hE (by decide) (by decide) ⟨by decide, by decide, by decide, by decide, by decide⟩
  rw [does_v0] at h
  exact h
theorem does_v1 : doesV ⟨⟨#[97]⟩, 1, 2, false⟩ ⟨⟨#[97]⟩, 2, 1, false⟩ ⟨1, 256, 0, ⟨#[]⟩⟩ = ⟨2, 0, 161, ⟨#[]⟩⟩ := by kernel_rfl
theorem does_c1 (w : World) (hE : Env w) : Calls Tryz.prog 23 #[.agg #[.string ⟨#[97]⟩, .int .i64 1, .int .i64 2, .bool false], .agg #[.string ⟨#[97]⟩, .int .i64 2, .int .i64 1, .bool false], .agg #[.int .i64 1, .int .i64 256, .int .u64 0, .string ⟨#[]⟩]] w fun e w' => e = .returned (.agg #[.int .i64 2, .int .i64 0, .int .u64 161, .string ⟨#[]⟩]) ∧ Below w.heap.size w w' := by
  have h := does_any ⟨⟨#[97]⟩, 1, 2, false⟩ ⟨⟨#[97]⟩, 2, 1, false⟩ ⟨1, 256, 0, ⟨#[]⟩⟩ w hE (by decide) (by decide) ⟨by decide, by decide, by decide, by decide, by decide⟩
  rw [does_v1] at h
  exact h
theorem does_v2 : doesV ⟨⟨#[97]⟩, 1, 2, false⟩ ⟨⟨#[97]⟩, 2, 1, false⟩ ⟨1, (-1), 0, ⟨#[]⟩⟩ = ⟨2, 0, 161, ⟨#[]⟩⟩ := by kernel_rfl
theorem does_c2 (w : World) (hE : Env w) : Calls Tryz.prog 23 #[.agg #[.string ⟨#[97]⟩, .int .i64 1, .int .i64 2, .bool false], .agg #[.string ⟨#[97]⟩, .int .i64 2, .int .i64 1, .bool false], .agg #[.int .i64 1, .int .i64 (-1), .int .u64 0, .string ⟨#[]⟩]] w fun e w' => e = .returned (.agg #[.int .i64 2, .int .i64 0, .int .u64 161, .string ⟨#[]⟩]) ∧ Below w.heap.size w w' := by
  have h := does_any ⟨⟨#[97]⟩, 1, 2, false⟩ ⟨⟨#[97]⟩, 2, 1, false⟩ ⟨1, (-1), 0, ⟨#[]⟩⟩ w hE (by decide) (by decide) ⟨by decide, by decide, by decide, by decide, by decide⟩
  rw [does_v2] at h
  exact h
theorem does_v3 : doesV ⟨⟨#[97]⟩, 1, 1, false⟩ ⟨⟨#[97]⟩, 4, 3, false⟩ ⟨1, (-12), 0, ⟨#[]⟩⟩ = ⟨4, 0, 0, ⟨#[45, 49, 50]⟩⟩ := by kernel_rfl
theorem does_c3 (w : World) (hE : Env w) : Calls Tryz.prog 23 #[.agg #[.string ⟨#[97]⟩, .int .i64 1, .int .i64 1, .bool false], .agg #[.string ⟨#[97]⟩, .int .i64 4, .int .i64 3, .bool false], .agg #[.int .i64 1, .int .i64 (-12), .int .u64 0, .string ⟨#[]⟩]] w fun e w' => e = .returned (.agg #[.int .i64 4, .int .i64 0, .int .u64 0, .string ⟨#[45, 49, 50]⟩]) ∧ Below w.heap.size w w' := by
  have h := does_any ⟨⟨#[97]⟩, 1, 1, false⟩ ⟨⟨#[97]⟩, 4, 3, false⟩ ⟨1, (-12), 0, ⟨#[]⟩⟩ w hE (by decide) (by decide) ⟨by decide, by decide, by decide, by decide, by decide⟩
  rw [does_v3] at h
  exact h
theorem does_v4 : doesV ⟨⟨#[97]⟩, 1, 1, false⟩ ⟨⟨#[97]⟩, 4, 3, false⟩ ⟨1, (-128), 0, ⟨#[]⟩⟩ = ⟨2, 0, 161, ⟨#[]⟩⟩ := by kernel_rfl
theorem does_c4 (w : World) (hE : Env w) : Calls Tryz.prog 23 #[.agg #[.string ⟨#[97]⟩, .int .i64 1, .int .i64 1, .bool false], .agg #[.string ⟨#[97]⟩, .int .i64 4, .int .i64 3, .bool false], .agg #[.int .i64 1, .int .i64 (-128), .int .u64 0, .string ⟨#[]⟩]] w fun e w' => e = .returned (.agg #[.int .i64 2, .int .i64 0, .int .u64 161, .string ⟨#[]⟩]) ∧ Below w.heap.size w w' := by
  have h := does_any ⟨⟨#[97]⟩, 1, 1, false⟩ ⟨⟨#[97]⟩, 4, 3, false⟩ ⟨1, (-128), 0, ⟨#[]⟩⟩ w hE (by decide) (by decide) ⟨by decide, by decide, by decide, by decide, by decide⟩
  rw [does_v4] at h
  exact h
theorem does_v5 : doesV ⟨⟨#[97]⟩, 4, 3, false⟩ ⟨⟨#[97]⟩, 1, 1, false⟩ ⟨4, 0, 0, ⟨#[49, 50]⟩⟩ = ⟨1, 12, 0, ⟨#[]⟩⟩ := by kernel_rfl
theorem does_c5 (w : World) (hE : Env w) : Calls Tryz.prog 23 #[.agg #[.string ⟨#[97]⟩, .int .i64 4, .int .i64 3, .bool false], .agg #[.string ⟨#[97]⟩, .int .i64 1, .int .i64 1, .bool false], .agg #[.int .i64 4, .int .i64 0, .int .u64 0, .string ⟨#[49, 50]⟩]] w fun e w' => e = .returned (.agg #[.int .i64 1, .int .i64 12, .int .u64 0, .string ⟨#[]⟩]) ∧ Below w.heap.size w w' := by
  have h := does_any ⟨⟨#[97]⟩, 4, 3, false⟩ ⟨⟨#[97]⟩, 1, 1, false⟩ ⟨4, 0, 0, ⟨#[49, 50]⟩⟩ w hE (by decide) (by decide) ⟨by decide, by decide, by decide, by decide, by decide⟩
  rw [does_v5] at h
  exact h
theorem does_v6 : doesV ⟨⟨#[97]⟩, 4, 3, false⟩ ⟨⟨#[97]⟩, 1, 1, false⟩ ⟨4, 0, 0, ⟨#[48, 49]⟩⟩ = ⟨2, 0, 161, ⟨#[]⟩⟩ := by kernel_rfl
theorem does_c6 (w : World) (hE : Env w) : Calls Tryz.prog 23 #[.agg #[.string ⟨#[97]⟩, .int .i64 4, .int .i64 3, .bool false], .agg #[.string ⟨#[97]⟩, .int .i64 1, .int .i64 1, .bool false], .agg #[.int .i64 4, .int .i64 0, .int .u64 0, .string ⟨#[48, 49]⟩]] w fun e w' => e = .returned (.agg #[.int .i64 2, .int .i64 0, .int .u64 161, .string ⟨#[]⟩]) ∧ Below w.heap.size w w' := by
  have h := does_any ⟨⟨#[97]⟩, 4, 3, false⟩ ⟨⟨#[97]⟩, 1, 1, false⟩ ⟨4, 0, 0, ⟨#[48, 49]⟩⟩ w hE (by decide) (by decide) ⟨by decide, by decide, by decide, by decide, by decide⟩
  rw [does_v6] at h
  exact h
theorem does_v7 : doesV ⟨⟨#[97]⟩, 3, 0, false⟩ ⟨⟨#[97]⟩, 4, 3, false⟩ ⟨3, 1, 0, ⟨#[]⟩⟩ = ⟨2, 0, 160, ⟨#[]⟩⟩ := by kernel_rfl
theorem does_c7 (w : World) (hE : Env w) : Calls Tryz.prog 23 #[.agg #[.string ⟨#[97]⟩, .int .i64 3, .int .i64 0, .bool false], .agg #[.string ⟨#[97]⟩, .int .i64 4, .int .i64 3, .bool false], .agg #[.int .i64 3, .int .i64 1, .int .u64 0, .string ⟨#[]⟩]] w fun e w' => e = .returned (.agg #[.int .i64 2, .int .i64 0, .int .u64 160, .string ⟨#[]⟩]) ∧ Below w.heap.size w w' := by
  have h := does_any ⟨⟨#[97]⟩, 3, 0, false⟩ ⟨⟨#[97]⟩, 4, 3, false⟩ ⟨3, 1, 0, ⟨#[]⟩⟩ w hE (by decide) (by decide) ⟨by decide, by decide, by decide, by decide, by decide⟩
  rw [does_v7] at h
  exact h
theorem sure_v1 : sureO ⟨⟨#[97]⟩, 2, 1, false⟩ ⟨⟨#[97]⟩, 1, 2, false⟩ = (0, true) := by kernel_rfl
theorem sure_c1 (w : World) (hE : Env w) : Calls Tryz.prog 13 #[.agg #[.string ⟨#[97]⟩, .int .i64 2, .int .i64 1, .bool false], .agg #[.string ⟨#[97]⟩, .int .i64 1, .int .i64 2, .bool false]] w fun e w' => e = .returned (.tuple #[.bool true, .int .i64 0]) ∧ Below w.heap.size w w' := by
  have h := Sure_any ⟨⟨#[97]⟩, 2, 1, false⟩ ⟨⟨#[97]⟩, 1, 2, false⟩ w hE (by decide) (by decide)
  rw [sure_v1] at h
  exact h
theorem sure_v2 : sureO ⟨⟨#[97]⟩, 2, 1, false⟩ ⟨⟨#[97]⟩, 1, 1, false⟩ = (0, false) := by kernel_rfl
theorem sure_c2 (w : World) (hE : Env w) : Calls Tryz.prog 13 #[.agg #[.string ⟨#[97]⟩, .int .i64 2, .int .i64 1, .bool false], .agg #[.string ⟨#[97]⟩, .int .i64 1, .int .i64 1, .bool false]] w fun e w' => e = .returned (.tuple #[.bool false, .int .i64 0]) ∧ Below w.heap.size w w' := by
  have h := Sure_any ⟨⟨#[97]⟩, 2, 1, false⟩ ⟨⟨#[97]⟩, 1, 1, false⟩ w hE (by decide) (by decide)
  rw [sure_v2] at h
  exact h
set_option maxRecDepth 100000 in
set_option maxHeartbeats 8000000 in
theorem l6works_true (w : World) (hE : Env w) :
    Calls Tryz.prog 9 #[] w fun e w' => e = .returned (.bool true) ∧ Below w.heap.size w w' := by
  have HE := Lib.hid (fun W (hb : Below w.heap.size w W) => hE.keep hb)
  clear hE
  go_enter Tryz.func9, Tryz.ntmps9
  go_upto_region 2 with fail
  obtain ⟨W1, hW1⟩ : ∃ W1, (w.alloc (.cells #[.int .i64 2, .int .i64 0, .int .u64 161, .string ⟨#[]⟩] 28)).alloc (.cells #[.int .i64 2, .int .i64 0, .int .u64 160, .string ⟨#[]⟩] 28) = W1 := ⟨_, rfl⟩
  have hb1 : Below w.heap.size w W1 := by rw [← hW1]; exact ((Below.refl _ _).alloc (Nat.le_refl _) _).alloc (by simp) _
  have o0 : W1.cell? ⟨w.heap.size, 0, none⟩ = some (.int .i64 2) := by rw [← hW1]; simp [go_sem]
  have o1 : W1.cell? ⟨w.heap.size, 1, none⟩ = some (.int .i64 0) := by rw [← hW1]; simp [go_sem]
  have o2 : W1.cell? ⟨w.heap.size, 2, none⟩ = some (.int .u64 161) := by rw [← hW1]; simp [go_sem]
  have o3 : W1.cell? ⟨w.heap.size, 3, none⟩ = some (.string ⟨#[]⟩) := by rw [← hW1]; simp [go_sem]
  have y0 : W1.cell? ⟨w.heap.size + 1, 0, none⟩ = some (.int .i64 2) := by rw [← hW1]; simp [go_sem]
  have y1 : W1.cell? ⟨w.heap.size + 1, 1, none⟩ = some (.int .i64 0) := by rw [← hW1]; simp [go_sem]
  have y2 : W1.cell? ⟨w.heap.size + 1, 2, none⟩ = some (.int .u64 160) := by rw [← hW1]; simp [go_sem]
  have y3 : W1.cell? ⟨w.heap.size + 1, 3, none⟩ = some (.string ⟨#[]⟩) := by rw [← hW1]; simp [go_sem]
  rw [hW1]
  have HB1 := Lib.hid hb1
  clear hW1 hb1
  go_wp2_with fail
  refine (l6column_any 1 2 _).mono ?_
  rintro e w2 ⟨rfl, hb2⟩
  replace o0 := keep_cell hb2 o0
  replace o1 := keep_cell hb2 o1
  replace o2 := keep_cell hb2 o2
  replace o3 := keep_cell hb2 o3
  replace y0 := keep_cell hb2 y0
  replace y1 := keep_cell hb2 y1
  replace y2 := keep_cell hb2 y2
  replace y3 := keep_cell hb2 y3
  have HB2 := Lib.hid (HB1.out.trans (hb2.mono HB1.out.size))
  clear hb2 HB1
  go_wp2_with fail
  refine (l6column_any 2 1 _).mono ?_
  rintro e w3 ⟨rfl, hb3⟩
  replace o0 := keep_cell hb3 o0
  replace o1 := keep_cell hb3 o1
  replace o2 := keep_cell hb3 o2
  replace o3 := keep_cell hb3 o3
  replace y0 := keep_cell hb3 y0
  replace y1 := keep_cell hb3 y1
  replace y2 := keep_cell hb3 y2
  replace y3 := keep_cell hb3 y3
  have HB3 := Lib.hid (HB2.out.trans (hb3.mono HB2.out.size))
  clear hb3 HB2
  go_upto_region 3 with fail
  obtain ⟨w4, hw4⟩ : ∃ W, (w3.alloc (.cells #[.string ⟨#[97]⟩, .int .i64 1, .int .i64 2, .bool false] 24)).alloc (.cells #[.string ⟨#[97]⟩, .int .i64 2, .int .i64 1, .bool false] 24) = W := ⟨_, rfl⟩
  have hb4 : Below w3.heap.size w3 w4 := by rw [← hw4]; exact ((Below.refl _ _).alloc (Nat.le_refl _) _).alloc (by simp) _
  replace o0 := keep_cell hb4 o0
  replace o1 := keep_cell hb4 o1
  replace o2 := keep_cell hb4 o2
  replace o3 := keep_cell hb4 o3
  replace y0 := keep_cell hb4 y0
  replace y1 := keep_cell hb4 y1
  replace y2 := keep_cell hb4 y2
  replace y3 := keep_cell hb4 y3
  have a0 : w4.cell? ⟨w3.heap.size, 0, none⟩ = some (.string ⟨#[97]⟩) := by rw [← hw4]; simp [go_sem]
  have a1 : w4.cell? ⟨w3.heap.size, 1, none⟩ = some (.int .i64 1) := by rw [← hw4]; simp [go_sem]
  have a2 : w4.cell? ⟨w3.heap.size, 2, none⟩ = some (.int .i64 2) := by rw [← hw4]; simp [go_sem]
  have a3 : w4.cell? ⟨w3.heap.size, 3, none⟩ = some (.bool false) := by rw [← hw4]; simp [go_sem]
  have b0 : w4.cell? ⟨w3.heap.size + 1, 0, none⟩ = some (.string ⟨#[97]⟩) := by rw [← hw4]; simp [go_sem]
  have b1 : w4.cell? ⟨w3.heap.size + 1, 1, none⟩ = some (.int .i64 2) := by rw [← hw4]; simp [go_sem]
  have b2 : w4.cell? ⟨w3.heap.size + 1, 2, none⟩ = some (.int .i64 1) := by rw [← hw4]; simp [go_sem]
  have b3 : w4.cell? ⟨w3.heap.size + 1, 3, none⟩ = some (.bool false) := by rw [← hw4]; simp [go_sem]
  rw [hw4]
  have HB4 := Lib.hid (HB3.out.trans (hb4.mono HB3.out.size))
  clear hw4 hb4 HB3
  go_wp2_with fail
  refine (l6column_any 1 1 _).mono ?_
  rintro e w5 ⟨rfl, hb5⟩
  replace o0 := keep_cell hb5 o0
  replace o1 := keep_cell hb5 o1
  replace o2 := keep_cell hb5 o2
  replace o3 := keep_cell hb5 o3
  replace y0 := keep_cell hb5 y0
  replace y1 := keep_cell hb5 y1
  replace y2 := keep_cell hb5 y2
  replace y3 := keep_cell hb5 y3
  replace a0 := keep_cell hb5 a0
  replace a1 := keep_cell hb5 a1
  replace a2 := keep_cell hb5 a2
  replace a3 := keep_cell hb5 a3
  replace b0 := keep_cell hb5 b0
  replace b1 := keep_cell hb5 b1
  replace b2 := keep_cell hb5 b2
  replace b3 := keep_cell hb5 b3
  have HB5 := Lib.hid (HB4.out.trans (hb5.mono HB4.out.size))
  clear hb5 HB4
  go_wp2_with fail
  refine (l6column_any 4 3 _).mono ?_
  rintro e w6 ⟨rfl, hb6⟩
  replace o0 := keep_cell hb6 o0
  replace o1 := keep_cell hb6 o1
  replace o2 := keep_cell hb6 o2
  replace o3 := keep_cell hb6 o3
  replace y0 := keep_cell hb6 y0
  replace y1 := keep_cell hb6 y1
  replace y2 := keep_cell hb6 y2
  replace y3 := keep_cell hb6 y3
  replace a0 := keep_cell hb6 a0
  replace a1 := keep_cell hb6 a1
  replace a2 := keep_cell hb6 a2
  replace a3 := keep_cell hb6 a3
  replace b0 := keep_cell hb6 b0
  replace b1 := keep_cell hb6 b1
  replace b2 := keep_cell hb6 b2
  replace b3 := keep_cell hb6 b3
  have HB6 := Lib.hid (HB5.out.trans (hb6.mono HB5.out.size))
  clear hb6 HB5
  go_upto_region 4 with fail
  obtain ⟨w7, hw7⟩ : ∃ W, (w6.alloc (.cells #[.string ⟨#[97]⟩, .int .i64 1, .int .i64 1, .bool false] 24)).alloc (.cells #[.string ⟨#[97]⟩, .int .i64 4, .int .i64 3, .bool false] 24) = W := ⟨_, rfl⟩
  have hb7 : Below w6.heap.size w6 w7 := by rw [← hw7]; exact ((Below.refl _ _).alloc (Nat.le_refl _) _).alloc (by simp) _
  replace o0 := keep_cell hb7 o0
  replace o1 := keep_cell hb7 o1
  replace o2 := keep_cell hb7 o2
  replace o3 := keep_cell hb7 o3
  replace y0 := keep_cell hb7 y0
  replace y1 := keep_cell hb7 y1
  replace y2 := keep_cell hb7 y2
  replace y3 := keep_cell hb7 y3
  replace a0 := keep_cell hb7 a0
  replace a1 := keep_cell hb7 a1
  replace a2 := keep_cell hb7 a2
  replace a3 := keep_cell hb7 a3
  replace b0 := keep_cell hb7 b0
  replace b1 := keep_cell hb7 b1
  replace b2 := keep_cell hb7 b2
  replace b3 := keep_cell hb7 b3
  have c0 : w7.cell? ⟨w6.heap.size, 0, none⟩ = some (.string ⟨#[97]⟩) := by rw [← hw7]; simp [go_sem]
  have c1 : w7.cell? ⟨w6.heap.size, 1, none⟩ = some (.int .i64 1) := by rw [← hw7]; simp [go_sem]
  have c2 : w7.cell? ⟨w6.heap.size, 2, none⟩ = some (.int .i64 1) := by rw [← hw7]; simp [go_sem]
  have c3 : w7.cell? ⟨w6.heap.size, 3, none⟩ = some (.bool false) := by rw [← hw7]; simp [go_sem]
  have d0 : w7.cell? ⟨w6.heap.size + 1, 0, none⟩ = some (.string ⟨#[97]⟩) := by rw [← hw7]; simp [go_sem]
  have d1 : w7.cell? ⟨w6.heap.size + 1, 1, none⟩ = some (.int .i64 4) := by rw [← hw7]; simp [go_sem]
  have d2 : w7.cell? ⟨w6.heap.size + 1, 2, none⟩ = some (.int .i64 3) := by rw [← hw7]; simp [go_sem]
  have d3 : w7.cell? ⟨w6.heap.size + 1, 3, none⟩ = some (.bool false) := by rw [← hw7]; simp [go_sem]
  rw [hw7]
  have HB7 := Lib.hid (HB6.out.trans (hb7.mono HB6.out.size))
  clear hw7 hb7 HB6
  go_wp2_with fail
  refine (sure_c1 _ (HE.out _ HB7.out)).mono ?_
  rintro e w8 ⟨rfl, hb8⟩
  replace o0 := keep_cell hb8 o0
  replace o1 := keep_cell hb8 o1
  replace o2 := keep_cell hb8 o2
  replace o3 := keep_cell hb8 o3
  replace y0 := keep_cell hb8 y0
  replace y1 := keep_cell hb8 y1
  replace y2 := keep_cell hb8 y2
  replace y3 := keep_cell hb8 y3
  replace a0 := keep_cell hb8 a0
  replace a1 := keep_cell hb8 a1
  replace a2 := keep_cell hb8 a2
  replace a3 := keep_cell hb8 a3
  replace b0 := keep_cell hb8 b0
  replace b1 := keep_cell hb8 b1
  replace b2 := keep_cell hb8 b2
  replace b3 := keep_cell hb8 b3
  replace c0 := keep_cell hb8 c0
  replace c1 := keep_cell hb8 c1
  replace c2 := keep_cell hb8 c2
  replace c3 := keep_cell hb8 c3
  replace d0 := keep_cell hb8 d0
  replace d1 := keep_cell hb8 d1
  replace d2 := keep_cell hb8 d2
  replace d3 := keep_cell hb8 d3
  have HB8 := Lib.hid (HB7.out.trans (hb8.mono HB7.out.size))
  clear hb8 HB7
  go_wp2_with fail
  refine (sure_c2 _ (HE.out _ HB8.out)).mono ?_
  rintro e w9 ⟨rfl, hb9⟩
  replace o0 := keep_cell hb9 o0
  replace o1 := keep_cell hb9 o1
  replace o2 := keep_cell hb9 o2
  replace o3 := keep_cell hb9 o3
  replace y0 := keep_cell hb9 y0
  replace y1 := keep_cell hb9 y1
  replace y2 := keep_cell hb9 y2
  replace y3 := keep_cell hb9 y3
  replace a0 := keep_cell hb9 a0
  replace a1 := keep_cell hb9 a1
  replace a2 := keep_cell hb9 a2
  replace a3 := keep_cell hb9 a3
  replace b0 := keep_cell hb9 b0
  replace b1 := keep_cell hb9 b1
  replace b2 := keep_cell hb9 b2
  replace b3 := keep_cell hb9 b3
  replace c0 := keep_cell hb9 c0
  replace c1 := keep_cell hb9 c1
  replace c2 := keep_cell hb9 c2
  replace c3 := keep_cell hb9 c3
  replace d0 := keep_cell hb9 d0
  replace d1 := keep_cell hb9 d1
  replace d2 := keep_cell hb9 d2
  replace d3 := keep_cell hb9 d3
  have HB9 := Lib.hid (HB8.out.trans (hb9.mono HB8.out.size))
  clear hb9 HB8
  have l_o0 := fun p => later_cell o0 p
  have l_o1 := fun p => later_cell o1 p
  have l_o2 := fun p => later_cell o2 p
  have l_o3 := fun p => later_cell o3 p
  have l_y0 := fun p => later_cell y0 p
  have l_y1 := fun p => later_cell y1 p
  have l_y2 := fun p => later_cell y2 p
  have l_y3 := fun p => later_cell y3 p
  have l_a0 := fun p => later_cell a0 p
  have l_a1 := fun p => later_cell a1 p
  have l_a2 := fun p => later_cell a2 p
  have l_a3 := fun p => later_cell a3 p
  have l_b0 := fun p => later_cell b0 p
  have l_b1 := fun p => later_cell b1 p
  have l_b2 := fun p => later_cell b2 p
  have l_b3 := fun p => later_cell b3 p
  have l_c0 := fun p => later_cell c0 p
  have l_c1 := fun p => later_cell c1 p
  have l_c2 := fun p => later_cell c2 p
  have l_c3 := fun p => later_cell c3 p
  have l_d0 := fun p => later_cell d0 p
  have l_d1 := fun p => later_cell d1 p
  have l_d2 := fun p => later_cell d2 p
  have l_d3 := fun p => later_cell d3 p
  clear o0 o1 o2 o3 y0 y1 y2 y3 a0 a1 a2 a3 b0 b1 b2 b3 c0 c1 c2 c3 d0 d1 d2 d3
  go_wp2_with fail
  simp only [List.append_eq, List.cons_append, List.nil_append]
  refine wp_region_later (by kernel_rfl) (by kernel_rfl) ?_
  repeat (go_big_quiet_step ((first | (go_at_call 23; first | with_reducible exact Calls.later (does_c0 _ (HE.out _ (HB9.out.trans ((Later.h _).mono HB9.out.size)))) | with_reducible exact Calls.later (does_c1 _ (HE.out _ (HB9.out.trans ((Later.h _).mono HB9.out.size)))) | with_reducible exact Calls.later (does_c2 _ (HE.out _ (HB9.out.trans ((Later.h _).mono HB9.out.size)))) | with_reducible exact Calls.later (does_c3 _ (HE.out _ (HB9.out.trans ((Later.h _).mono HB9.out.size)))) | with_reducible exact Calls.later (does_c4 _ (HE.out _ (HB9.out.trans ((Later.h _).mono HB9.out.size)))) | with_reducible exact Calls.later (does_c5 _ (HE.out _ (HB9.out.trans ((Later.h _).mono HB9.out.size)))) | with_reducible exact Calls.later (does_c6 _ (HE.out _ (HB9.out.trans ((Later.h _).mono HB9.out.size)))) | with_reducible exact Calls.later (does_c7 _ (HE.out _ (HB9.out.trans ((Later.h _).mono HB9.out.size))))) | (go_at_call 24; exact Calls.later (l6of_any _ _)) | (go_at_call 25; exact Calls.later (l6bytes_any _ _)) | (go_at_call 22; exact Calls.later (l6column_any _ _ _)) | (go_at_call 12; exact Calls.later_same (l6num_any _ _)))))
  refine wpQuiet_nil ?_
  rintro w3 ⟨⟨W3, hb3⟩, rfl⟩
  go_wp2_with fail
  go_ret
  exact ⟨rfl, HB9.out.trans (hb3.mono HB9.out.size)⟩
end Go.Proofs.YtmgeefhacnadcaaGreatDoor
