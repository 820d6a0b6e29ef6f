/-
  swingbridgelaw06.ConvertHolds: true.
-/
import Derived.Test.YtmgeefhacnadcaaGreatDoorVWorks
import Derived.Test.YtmgeefhacnadcaaGreatDoorVHlds
namespace Go.Proofs.YtmgeefhacnadcaaGreatDoor
open Go.RowKit

set_option maxRecDepth 100000 in
set_option maxHeartbeats 8000000 in
theorem lawH6_true (c d : Col) (v y : Vl) (w : World) (hE : Env w) (n1 : c.n.size ≤ 9223372036854775807) (n2 : d.n.size ≤ 9223372036854775807) (n3 : v.s.size ≤ 9223372036854775807) (n4 : y.s.size ≤ 9223372036854775807) (hv : v.s.size ≤ 300 → v.ok) (hy : y.s.size ≤ 300 → y.ok) :
    Calls Tryz.prog 7 #[.agg #[.string c.n, .int .i64 c.t, .int .i64 c.z, .bool c.u], .agg #[.string d.n, .int .i64 d.t, .int .i64 d.z, .bool d.u], .agg #[.int .i64 v.k, .int .i64 v.i, .int .u64 v.u, .string v.s], .agg #[.int .i64 y.k, .int .i64 y.i, .int .u64 y.u, .string y.s]] w fun e w' => e = .returned (.bool true) ∧ Below w.heap.size w w' := by
  have HE := Lib.hid (fun W (hb : Below w.heap.size w W) => hE.keep hb)
  clear hE
  go_enter Tryz.func7, Tryz.ntmps7
  go_upto_region 1 with fail
  obtain ⟨W1, hW1⟩ : ∃ W1, ((((w.alloc (.cells #[.string c.n, .int .i64 c.t, .int .i64 c.z, .bool c.u] 24)).alloc (.cells #[.string d.n, .int .i64 d.t, .int .i64 d.z, .bool d.u] 24)).alloc (.cells #[.int .i64 v.k, .int .i64 v.i, .int .u64 v.u, .string v.s] 28)).alloc (.cells #[.int .i64 y.k, .int .i64 y.i, .int .u64 y.u, .string y.s] 28)) = W1 := ⟨_, rfl⟩
  have hb1 : Below w.heap.size w W1 := by rw [← hW1]; exact ((((Below.refl _ _).alloc (Nat.le_refl _) _).alloc (by simp) _).alloc (by simp; omega) _).alloc (by simp; omega) _
  have a0 : W1.cell? ⟨w.heap.size, 0, none⟩ = some (.string c.n) := by rw [← hW1]; simp [go_sem]
  have a1 : W1.cell? ⟨w.heap.size, 1, none⟩ = some (.int .i64 c.t) := by rw [← hW1]; simp [go_sem]
  have a2 : W1.cell? ⟨w.heap.size, 2, none⟩ = some (.int .i64 c.z) := by rw [← hW1]; simp [go_sem]
  have a3 : W1.cell? ⟨w.heap.size, 3, none⟩ = some (.bool c.u) := by rw [← hW1]; simp [go_sem]
  have b0 : W1.cell? ⟨w.heap.size + 1, 0, none⟩ = some (.string d.n) := by rw [← hW1]; simp [go_sem]
  have b1 : W1.cell? ⟨w.heap.size + 1, 1, none⟩ = some (.int .i64 d.t) := by rw [← hW1]; simp [go_sem]
  have b2 : W1.cell? ⟨w.heap.size + 1, 2, none⟩ = some (.int .i64 d.z) := by rw [← hW1]; simp [go_sem]
  have b3 : W1.cell? ⟨w.heap.size + 1, 3, none⟩ = some (.bool d.u) := by rw [← hW1]; simp [go_sem]
  have v0 : W1.cell? ⟨w.heap.size + 1 + 1, 0, none⟩ = some (.int .i64 v.k) := by rw [← hW1]; simp [go_sem]
  have v1 : W1.cell? ⟨w.heap.size + 1 + 1, 1, none⟩ = some (.int .i64 v.i) := by rw [← hW1]; simp [go_sem]
  have v2 : W1.cell? ⟨w.heap.size + 1 + 1, 2, none⟩ = some (.int .u64 v.u) := by rw [← hW1]; simp [go_sem]
  have v3 : W1.cell? ⟨w.heap.size + 1 + 1, 3, none⟩ = some (.string v.s) := by rw [← hW1]; simp [go_sem]
  have y0 : W1.cell? ⟨w.heap.size + 1 + 1 + 1, 0, none⟩ = some (.int .i64 y.k) := by rw [← hW1]; simp [go_sem]
  have y1 : W1.cell? ⟨w.heap.size + 1 + 1 + 1, 1, none⟩ = some (.int .i64 y.i) := by rw [← hW1]; simp [go_sem]
  have y2 : W1.cell? ⟨w.heap.size + 1 + 1 + 1, 2, none⟩ = some (.int .u64 y.u) := by rw [← hW1]; simp [go_sem]
  have y3 : W1.cell? ⟨w.heap.size + 1 + 1 + 1, 3, none⟩ = some (.string y.s) := by rw [← hW1]; simp [go_sem]
  rw [hW1]
  have HB1 := Lib.hid hb1
  clear hW1 hb1
  have HSB : Hid (∀ W, Below W1.heap.size W1 W → W.cell? ⟨w.heap.size, 0, none⟩ = some (.string c.n) ∧ W.cell? ⟨w.heap.size, 1, none⟩ = some (.int .i64 c.t) ∧ W.cell? ⟨w.heap.size, 2, none⟩ = some (.int .i64 c.z) ∧ W.cell? ⟨w.heap.size, 3, none⟩ = some (.bool c.u) ∧ W.cell? ⟨w.heap.size + 1, 0, none⟩ = some (.string d.n) ∧ W.cell? ⟨w.heap.size + 1, 1, none⟩ = some (.int .i64 d.t) ∧ W.cell? ⟨w.heap.size + 1, 2, none⟩ = some (.int .i64 d.z) ∧ W.cell? ⟨w.heap.size + 1, 3, none⟩ = some (.bool d.u) ∧ W.cell? ⟨w.heap.size + 1 + 1, 0, none⟩ = some (.int .i64 v.k) ∧ W.cell? ⟨w.heap.size + 1 + 1, 1, none⟩ = some (.int .i64 v.i) ∧ W.cell? ⟨w.heap.size + 1 + 1, 2, none⟩ = some (.int .u64 v.u) ∧ W.cell? ⟨w.heap.size + 1 + 1, 3, none⟩ = some (.string v.s) ∧ W.cell? ⟨w.heap.size + 1 + 1 + 1, 0, none⟩ = some (.int .i64 y.k) ∧ W.cell? ⟨w.heap.size + 1 + 1 + 1, 1, none⟩ = some (.int .i64 y.i) ∧ W.cell? ⟨w.heap.size + 1 + 1 + 1, 2, none⟩ = some (.int .u64 y.u) ∧ W.cell? ⟨w.heap.size + 1 + 1 + 1, 3, none⟩ = some (.string y.s)) := Lib.hid (fun W hb => ⟨keep_cell hb a0, keep_cell hb a1, keep_cell hb a2, keep_cell hb a3, keep_cell hb b0, keep_cell hb b1, keep_cell hb b2, keep_cell hb b3, keep_cell hb v0, keep_cell hb v1, keep_cell hb v2, keep_cell hb v3, keep_cell hb y0, keep_cell hb y1, keep_cell hb y2, keep_cell hb y3⟩)
  have HSH : Hid (∀ (x : Col) W, Below W1.heap.size W1 W → Calls Tryz.prog 8 #[.agg #[.string x.n, .int .i64 x.t, .int .i64 x.z, .bool x.u]] W fun e w' => e = .returned (.bool (decide ((x.n.size : Int) ≤ 40))) ∧ Below W1.heap.size W1 w') := Lib.hid (fun x W hb => (l6short_any x W).mono fun _ _ h => ⟨h.1, hb.trans (h.2.mono hb.size)⟩)
  have HWK : Hid (∀ W, Below W1.heap.size W1 W → Calls Tryz.prog 9 #[] W fun e w' => e = .returned (.bool true) ∧ Below W1.heap.size W1 w') := Lib.hid (fun W hb => (l6works_true W (HE.out W (HB1.out.trans (hb.mono HB1.out.size)))).mono fun _ _ h => ⟨h.1, hb.trans (h.2.mono hb.size)⟩)
  have HWR : Hid (∀ W, Below W1.heap.size W1 W → Calls Tryz.prog 9 #[] W fun e w' => e = .returned (.bool true) ∧ Below W.heap.size W w') := Lib.hid (fun W hb => l6works_true W (HE.out W (HB1.out.trans (hb.mono HB1.out.size))))
  have hB := Below.refl W1.heap.size W1
  by_cases hsm : c.n.size ≤ 40 ∧ d.n.size ≤ 40 ∧ v.s.size ≤ 300 ∧ y.s.size ≤ 300
  · obtain ⟨s1, s2, s3, s4⟩ := hsm
    have hv := hv s3
    have hy := hy s4
    have S1 : decide ((c.n.size : Int) ≤ 40) = true := decide_eq_true (by omega)
    have S2 : decide ((d.n.size : Int) ≤ 40) = true := decide_eq_true (by omega)
    have S3 : decide ((300 : Int) < (v.s.size : Int)) = false := decide_eq_false (by omega)
    have S4 : decide ((300 : Int) < (y.s.size : Int)) = false := decide_eq_false (by omega)
    have HSU : Hid (∀ W, Below W1.heap.size W1 W → Calls Tryz.prog 13 #[.agg #[.string c.n, .int .i64 c.t, .int .i64 c.z, .bool c.u], .agg #[.string d.n, .int .i64 d.t, .int .i64 d.z, .bool d.u]] W fun e w' => e = .returned (.tuple #[.bool (sureO c d).2, .int .i64 (sureO c d).1]) ∧ Below W1.heap.size W1 w') := Lib.hid (fun W hb => (Sure_any c d W (HE.out W (HB1.out.trans (hb.mono HB1.out.size))) n1 n2).mono fun _ _ h => ⟨h.1, hb.trans (h.2.mono hb.size)⟩)
    have HC1 : Hid (∀ W, Below W1.heap.size W1 W → Calls Tryz.prog 10 #[.agg #[.string c.n, .int .i64 c.t, .int .i64 c.z, .bool c.u], .agg #[.string d.n, .int .i64 d.t, .int .i64 d.z, .bool d.u], .agg #[.int .i64 v.k, .int .i64 v.i, .int .u64 v.u, .string v.s]] W fun e w' => e = .returned (.tuple #[.agg #[.int .i64 (cvO c d v).2.k, .int .i64 (cvO c d v).2.i, .int .u64 (cvO c d v).2.u, .string (cvO c d v).2.s], .int .i64 (cvO c d v).1]) ∧ Below W1.heap.size W1 w') := Lib.hid (fun W hb => (Convert_any c d v W (HE.out W (HB1.out.trans (hb.mono HB1.out.size))) n1 n2 hv).mono fun _ _ h => ⟨h.1, hb.trans (h.2.mono hb.size)⟩)
    have HC2 : Hid (∀ W, Below W1.heap.size W1 W → Calls Tryz.prog 10 #[.agg #[.string c.n, .int .i64 c.t, .int .i64 c.z, .bool c.u], .agg #[.string d.n, .int .i64 d.t, .int .i64 d.z, .bool d.u], .agg #[.int .i64 y.k, .int .i64 y.i, .int .u64 y.u, .string y.s]] W fun e w' => e = .returned (.tuple #[.agg #[.int .i64 (cvO c d y).2.k, .int .i64 (cvO c d y).2.i, .int .u64 (cvO c d y).2.u, .string (cvO c d y).2.s], .int .i64 (cvO c d y).1]) ∧ Below W.heap.size W w') := Lib.hid (fun W hb => Convert_any c d y W (HE.out W (HB1.out.trans (hb.mono HB1.out.size))) n1 n2 hy)
    have HFT : Hid (∀ W, Below W1.heap.size W1 W → Calls Tryz.prog 21 #[.agg #[.string c.n, .int .i64 c.t, .int .i64 c.z, .bool c.u], .agg #[.int .i64 v.k, .int .i64 v.i, .int .u64 v.u, .string v.s]] W fun e w' => e = .returned (.int .i64 (fitsN c v)) ∧ Below W.heap.size W w') := Lib.hid (fun W hb => Fits_any c v W (HE.out W (HB1.out.trans (hb.mono HB1.out.size))).et n1)
    have HSN := Lib.hid (fun h0 hs hf => cv_sure (c := c) (d := d) (v := v) hv h0 hs hf)
    have HBK : Hid ((cvO c d v).1 = 0 → ∀ W, Below W1.heap.size W1 W → Calls Tryz.prog 10 #[.agg #[.string d.n, .int .i64 d.t, .int .i64 d.z, .bool d.u], .agg #[.string c.n, .int .i64 c.t, .int .i64 c.z, .bool c.u], .agg #[.int .i64 (cvO c d v).2.k, .int .i64 (cvO c d v).2.i, .int .u64 (cvO c d v).2.u, .string (cvO c d v).2.s]] W fun e w' => e = .returned (.tuple #[.agg #[.int .i64 v.k, .int .i64 v.i, .int .u64 v.u, .string v.s], .int .i64 0]) ∧ Below W.heap.size W w') := Lib.hid (fun h W hb => by
      obtain ⟨e1, e2⟩ := cv_back hv h
      have H := Convert_any d c (cvO c d v).2 W (HE.out W (HB1.out.trans (hb.mono HB1.out.size))) n2 n1 e2
      rw [e1] at H
      exact H)
    have HON := Lib.hid (fun h k he => cv_one (c := c) (d := d) hv hy h k he)
    have HEQ : Hid (v = y → cvO c d v = cvO c d y) := Lib.hid (fun h => by rw [h])
    clear hv hy
    generalize sureO c d = su at HSU HSN
    generalize fitsN c v = m at HFT HSN
    generalize cvO c d v = cx at HC1 HBK HSN HON HEQ
    generalize cvO c d y = cy at HC2 HON HEQ
    obtain ⟨se, ss⟩ := su
    obtain ⟨cn, x⟩ := cx
    obtain ⟨yn, z⟩ := cy
    dsimp only at HSU HC1 HC2 HBK HSN HON
    go_upto_region 4 with (first | (go_at_call 8; (with_reducible refine (HSH.out _ _ hB).mono ?_); rintro e w' ⟨rfl, hB⟩; obtain ⟨a0, a1, a2, a3, b0, b1, b2, b3, v0, v1, v2, v3, y0, y1, y2, y3⟩ := HSB.out _ hB) | (go_at_call 13; (with_reducible refine (HSU.out _ hB).mono ?_); rintro e w' ⟨rfl, hB⟩; obtain ⟨a0, a1, a2, a3, b0, b1, b2, b3, v0, v1, v2, v3, y0, y1, y2, y3⟩ := HSB.out _ hB))
    go_wp2_with fail
    refine (HC1.out _ hB).mono ?_
    rintro e w4 ⟨rfl, hB4⟩
    clear a0 a1 a2 a3 b0 b1 b2 b3 v0 v1 v2 v3 y0 y1 y2 y3
    obtain ⟨a0, a1, a2, a3, b0, b1, b2, b3, v0, v1, v2, v3, y0, y1, y2, y3⟩ := HSB.out _ hB4
    clear hB
    go_upto_region 5 with fail
    obtain ⟨W5, hW5⟩ : ∃ W, w4.alloc (.cells #[.int .i64 x.k, .int .i64 x.i, .int .u64 x.u, .string x.s] 28) = W := ⟨_, rfl⟩
    have hb : Below w4.heap.size w4 W5 := by rw [← hW5]; exact (Below.refl _ _).alloc (Nat.le_refl _) _
    replace a0 := keep_cell hb a0
    replace a1 := keep_cell hb a1
    replace a2 := keep_cell hb a2
    replace a3 := keep_cell hb a3
    replace b0 := keep_cell hb b0
    replace b1 := keep_cell hb b1
    replace b2 := keep_cell hb b2
    replace b3 := keep_cell hb b3
    replace v0 := keep_cell hb v0
    replace v1 := keep_cell hb v1
    replace v2 := keep_cell hb v2
    replace v3 := keep_cell hb v3
    replace y0 := keep_cell hb y0
    replace y1 := keep_cell hb y1
    replace y2 := keep_cell hb y2
    replace y3 := keep_cell hb y3
    have x0 : W5.cell? ⟨w4.heap.size, 0, none⟩ = some (.int .i64 x.k) := by rw [← hW5]; simp [go_sem]
    have x1 : W5.cell? ⟨w4.heap.size, 1, none⟩ = some (.int .i64 x.i) := by rw [← hW5]; simp [go_sem]
    have x2 : W5.cell? ⟨w4.heap.size, 2, none⟩ = some (.int .u64 x.u) := by rw [← hW5]; simp [go_sem]
    have x3 : W5.cell? ⟨w4.heap.size, 3, none⟩ = some (.string x.s) := by rw [← hW5]; simp [go_sem]
    rw [hW5]
    replace hB4 := held_trans hB4 hb
    clear hW5 hb
    go_wp2_with fail
    refine (HC2.out _ hB4).mono ?_
    rintro e w6 ⟨rfl, hb⟩
    replace a0 := keep_cell hb a0
    replace a1 := keep_cell hb a1
    replace a2 := keep_cell hb a2
    replace a3 := keep_cell hb a3
    replace b0 := keep_cell hb b0
    replace b1 := keep_cell hb b1
    replace b2 := keep_cell hb b2
    replace b3 := keep_cell hb b3
    replace v0 := keep_cell hb v0
    replace v1 := keep_cell hb v1
    replace v2 := keep_cell hb v2
    replace v3 := keep_cell hb v3
    replace y0 := keep_cell hb y0
    replace y1 := keep_cell hb y1
    replace y2 := keep_cell hb y2
    replace y3 := keep_cell hb y3
    replace x0 := keep_cell hb x0
    replace x1 := keep_cell hb x1
    replace x2 := keep_cell hb x2
    replace x3 := keep_cell hb x3
    replace hB4 := held_trans hB4 hb
    clear hb
    go_upto_region 6 with fail
    obtain ⟨W7, hW7⟩ : ∃ W, w6.alloc (.cells #[.int .i64 z.k, .int .i64 z.i, .int .u64 z.u, .string z.s] 28) = W := ⟨_, rfl⟩
    have hb : Below w6.heap.size w6 W7 := by rw [← hW7]; exact (Below.refl _ _).alloc (Nat.le_refl _) _
    replace a0 := keep_cell hb a0
    replace a1 := keep_cell hb a1
    replace a2 := keep_cell hb a2
    replace a3 := keep_cell hb a3
    replace b0 := keep_cell hb b0
    replace b1 := keep_cell hb b1
    replace b2 := keep_cell hb b2
    replace b3 := keep_cell hb b3
    replace v0 := keep_cell hb v0
    replace v1 := keep_cell hb v1
    replace v2 := keep_cell hb v2
    replace v3 := keep_cell hb v3
    replace y0 := keep_cell hb y0
    replace y1 := keep_cell hb y1
    replace y2 := keep_cell hb y2
    replace y3 := keep_cell hb y3
    replace x0 := keep_cell hb x0
    replace x1 := keep_cell hb x1
    replace x2 := keep_cell hb x2
    replace x3 := keep_cell hb x3
    have z0 : W7.cell? ⟨w6.heap.size, 0, none⟩ = some (.int .i64 z.k) := by rw [← hW7]; simp [go_sem]
    have z1 : W7.cell? ⟨w6.heap.size, 1, none⟩ = some (.int .i64 z.i) := by rw [← hW7]; simp [go_sem]
    have z2 : W7.cell? ⟨w6.heap.size, 2, none⟩ = some (.int .u64 z.u) := by rw [← hW7]; simp [go_sem]
    have z3 : W7.cell? ⟨w6.heap.size, 3, none⟩ = some (.string z.s) := by rw [← hW7]; simp [go_sem]
    rw [hW7]
    replace hB4 := held_trans hB4 hb
    clear hW7 hb
    have hsb : ∀ n : Int, n = 0 → (n == 0) = true ∧ (n != 0) = false := fun n h => by subst h; exact ⟨rfl, rfl⟩
    have hsc : ∀ n : Int, n ≠ 0 → (n == 0) = false ∧ (n != 0) = true := fun n h => by simp [h]
    by_cases hcn : cn = 0
    · obtain ⟨p3, q3⟩ := hsb cn hcn
      by_cases h1 : se = 0
      · obtain ⟨p1, q1⟩ := hsb se h1
        cases ss
        · go_upto_region 10 with (first | (go_at_call 12; refine (l6num_any _ _).mono ?_; rintro e w' ⟨rfl, rfl⟩) | (go_at_call 21; refine (HFT.out _ hB4).mono ?_; rintro e w8 ⟨rfl, hb⟩; replace a0 := keep_cell hb a0; replace a1 := keep_cell hb a1; replace a2 := keep_cell hb a2; replace a3 := keep_cell hb a3; replace b0 := keep_cell hb b0; replace b1 := keep_cell hb b1; replace b2 := keep_cell hb b2; replace b3 := keep_cell hb b3; replace v0 := keep_cell hb v0; replace v1 := keep_cell hb v1; replace v2 := keep_cell hb v2; replace v3 := keep_cell hb v3; replace y0 := keep_cell hb y0; replace y1 := keep_cell hb y1; replace y2 := keep_cell hb y2; replace y3 := keep_cell hb y3; replace x0 := keep_cell hb x0; replace x1 := keep_cell hb x1; replace x2 := keep_cell hb x2; replace x3 := keep_cell hb x3; replace z0 := keep_cell hb z0; replace z1 := keep_cell hb z1; replace z2 := keep_cell hb z2; replace z3 := keep_cell hb z3; replace hB4 := held_trans hB4 hb; clear hb))
          go_wp2_with fail
          refine (HBK.out hcn _ hB4).mono ?_
          rintro e w10 ⟨rfl, hb⟩
          replace a0 := keep_cell hb a0
          replace a1 := keep_cell hb a1
          replace a2 := keep_cell hb a2
          replace a3 := keep_cell hb a3
          replace b0 := keep_cell hb b0
          replace b1 := keep_cell hb b1
          replace b2 := keep_cell hb b2
          replace b3 := keep_cell hb b3
          replace v0 := keep_cell hb v0
          replace v1 := keep_cell hb v1
          replace v2 := keep_cell hb v2
          replace v3 := keep_cell hb v3
          replace y0 := keep_cell hb y0
          replace y1 := keep_cell hb y1
          replace y2 := keep_cell hb y2
          replace y3 := keep_cell hb y3
          replace x0 := keep_cell hb x0
          replace x1 := keep_cell hb x1
          replace x2 := keep_cell hb x2
          replace x3 := keep_cell hb x3
          replace z0 := keep_cell hb z0
          replace z1 := keep_cell hb z1
          replace z2 := keep_cell hb z2
          replace z3 := keep_cell hb z3
          replace hB4 := held_trans hB4 hb
          clear hb
          go_upto_region 11 with fail
          obtain ⟨W11, hW11⟩ : ∃ W, w10.alloc (.cells #[.int .i64 v.k, .int .i64 v.i, .int .u64 v.u, .string v.s] 28) = W := ⟨_, rfl⟩
          have hb : Below w10.heap.size w10 W11 := by rw [← hW11]; exact (Below.refl _ _).alloc (Nat.le_refl _) _
          replace a0 := keep_cell hb a0
          replace a1 := keep_cell hb a1
          replace a2 := keep_cell hb a2
          replace a3 := keep_cell hb a3
          replace b0 := keep_cell hb b0
          replace b1 := keep_cell hb b1
          replace b2 := keep_cell hb b2
          replace b3 := keep_cell hb b3
          replace v0 := keep_cell hb v0
          replace v1 := keep_cell hb v1
          replace v2 := keep_cell hb v2
          replace v3 := keep_cell hb v3
          replace y0 := keep_cell hb y0
          replace y1 := keep_cell hb y1
          replace y2 := keep_cell hb y2
          replace y3 := keep_cell hb y3
          replace x0 := keep_cell hb x0
          replace x1 := keep_cell hb x1
          replace x2 := keep_cell hb x2
          replace x3 := keep_cell hb x3
          replace z0 := keep_cell hb z0
          replace z1 := keep_cell hb z1
          replace z2 := keep_cell hb z2
          replace z3 := keep_cell hb z3
          have k0 : W11.cell? ⟨w10.heap.size, 0, none⟩ = some (.int .i64 v.k) := by rw [← hW11]; simp [go_sem]
          have k1 : W11.cell? ⟨w10.heap.size, 1, none⟩ = some (.int .i64 v.i) := by rw [← hW11]; simp [go_sem]
          have k2 : W11.cell? ⟨w10.heap.size, 2, none⟩ = some (.int .u64 v.u) := by rw [← hW11]; simp [go_sem]
          have k3 : W11.cell? ⟨w10.heap.size, 3, none⟩ = some (.string v.s) := by rw [← hW11]; simp [go_sem]
          rw [hW11]
          replace hB4 := held_trans hB4 hb
          clear hW11 hb
          replace v0 := fun p => later_cell v0 p
          replace v1 := fun p => later_cell v1 p
          replace v2 := fun p => later_cell v2 p
          replace v3 := fun p => later_cell v3 p
          replace y0 := fun p => later_cell y0 p
          replace y1 := fun p => later_cell y1 p
          replace y2 := fun p => later_cell y2 p
          replace y3 := fun p => later_cell y3 p
          replace x0 := fun p => later_cell x0 p
          replace x1 := fun p => later_cell x1 p
          replace x2 := fun p => later_cell x2 p
          replace x3 := fun p => later_cell x3 p
          replace z0 := fun p => later_cell z0 p
          replace z1 := fun p => later_cell z1 p
          replace z2 := fun p => later_cell z2 p
          replace z3 := fun p => later_cell z3 p
          replace k0 := fun p => later_cell k0 p
          replace k1 := fun p => later_cell k1 p
          replace k2 := fun p => later_cell k2 p
          replace k3 := fun p => later_cell k3 p
          clear a0 a1 a2 a3 b0 b1 b2 b3
          have hev := eql_same v
          by_cases h4 : yn = 0
          · obtain ⟨p4, q4⟩ := hsb yn h4
            by_cases h5 : v = y
            · have h6 := (Prod.mk.inj (HEQ.out h5)).2
              have he1 : ∀ W, (binOp .eql 28 (.agg #[.int .i64 v.k, .int .i64 v.i, .int .u64 v.u, .string v.s]) (.agg #[.int .i64 y.k, .int .i64 y.i, .int .u64 y.u, .string y.s])).run Tryz.prog W = .ok (.bool true) W := fun W => by rw [h5]; exact eql_same y W
              have he2 : ∀ W, (binOp .eql 28 (.agg #[.int .i64 x.k, .int .i64 x.i, .int .u64 x.u, .string x.s]) (.agg #[.int .i64 z.k, .int .i64 z.i, .int .u64 z.u, .string z.s])).run Tryz.prog W = .ok (.bool true) W := fun W => by rw [h6]; exact eql_same z W
              refine wp_region_later (by kernel_rfl) (by kernel_rfl) ?_
              repeat (go_big_quiet_step ((first | (go_at_call 12; exact Calls.later_same (l6num_any _ _)) | (go_at_call 9; exact Calls.later (HWR.out _ (held_trans hB4 (Later.h _)))))))
              refine wpQuiet_nil ?_
              rintro w3 ⟨⟨W3, hb3⟩, rfl⟩
              go_wp2_with fail
              go_ret
              exact ⟨rfl, HB1.out.trans ((held_trans hB4 hb3).mono HB1.out.size)⟩
            · have h6 : x ≠ z := fun h => h5 (HON.out hcn h4 h)
              have he1 := eql_diff h5
              have he2 := eql_diff h6
              refine wp_region_later (by kernel_rfl) (by kernel_rfl) ?_
              repeat (go_big_quiet_step ((first | (go_at_call 12; exact Calls.later_same (l6num_any _ _)) | (go_at_call 9; exact Calls.later (HWR.out _ (held_trans hB4 (Later.h _)))))))
              refine wpQuiet_nil ?_
              rintro w3 ⟨⟨W3, hb3⟩, rfl⟩
              go_wp2_with fail
              go_ret
              exact ⟨rfl, HB1.out.trans ((held_trans hB4 hb3).mono HB1.out.size)⟩
          · obtain ⟨p4, q4⟩ := hsc yn h4
            refine wp_region_later (by kernel_rfl) (by kernel_rfl) ?_
            repeat (go_big_quiet_step ((first | (go_at_call 12; exact Calls.later_same (l6num_any _ _)) | (go_at_call 9; exact Calls.later (HWR.out _ (held_trans hB4 (Later.h _)))))))
            refine wpQuiet_nil ?_
            rintro w3 ⟨⟨W3, hb3⟩, rfl⟩
            go_wp2_with fail
            go_ret
            exact ⟨rfl, HB1.out.trans ((held_trans hB4 hb3).mono HB1.out.size)⟩
        · by_cases h2 : m = 0
          · obtain ⟨p2, q2⟩ := hsb m h2
            go_upto_region 10 with (first | (go_at_call 12; refine (l6num_any _ _).mono ?_; rintro e w' ⟨rfl, rfl⟩) | (go_at_call 21; refine (HFT.out _ hB4).mono ?_; rintro e w8 ⟨rfl, hb⟩; replace a0 := keep_cell hb a0; replace a1 := keep_cell hb a1; replace a2 := keep_cell hb a2; replace a3 := keep_cell hb a3; replace b0 := keep_cell hb b0; replace b1 := keep_cell hb b1; replace b2 := keep_cell hb b2; replace b3 := keep_cell hb b3; replace v0 := keep_cell hb v0; replace v1 := keep_cell hb v1; replace v2 := keep_cell hb v2; replace v3 := keep_cell hb v3; replace y0 := keep_cell hb y0; replace y1 := keep_cell hb y1; replace y2 := keep_cell hb y2; replace y3 := keep_cell hb y3; replace x0 := keep_cell hb x0; replace x1 := keep_cell hb x1; replace x2 := keep_cell hb x2; replace x3 := keep_cell hb x3; replace z0 := keep_cell hb z0; replace z1 := keep_cell hb z1; replace z2 := keep_cell hb z2; replace z3 := keep_cell hb z3; replace hB4 := held_trans hB4 hb; clear hb))
            go_wp2_with fail
            refine (HBK.out hcn _ hB4).mono ?_
            rintro e w10 ⟨rfl, hb⟩
            replace a0 := keep_cell hb a0
            replace a1 := keep_cell hb a1
            replace a2 := keep_cell hb a2
            replace a3 := keep_cell hb a3
            replace b0 := keep_cell hb b0
            replace b1 := keep_cell hb b1
            replace b2 := keep_cell hb b2
            replace b3 := keep_cell hb b3
            replace v0 := keep_cell hb v0
            replace v1 := keep_cell hb v1
            replace v2 := keep_cell hb v2
            replace v3 := keep_cell hb v3
            replace y0 := keep_cell hb y0
            replace y1 := keep_cell hb y1
            replace y2 := keep_cell hb y2
            replace y3 := keep_cell hb y3
            replace x0 := keep_cell hb x0
            replace x1 := keep_cell hb x1
            replace x2 := keep_cell hb x2
            replace x3 := keep_cell hb x3
            replace z0 := keep_cell hb z0
            replace z1 := keep_cell hb z1
            replace z2 := keep_cell hb z2
            replace z3 := keep_cell hb z3
            replace hB4 := held_trans hB4 hb
            clear hb
            go_upto_region 11 with fail
            obtain ⟨W11, hW11⟩ : ∃ W, w10.alloc (.cells #[.int .i64 v.k, .int .i64 v.i, .int .u64 v.u, .string v.s] 28) = W := ⟨_, rfl⟩
            have hb : Below w10.heap.size w10 W11 := by rw [← hW11]; exact (Below.refl _ _).alloc (Nat.le_refl _) _
            replace a0 := keep_cell hb a0
            replace a1 := keep_cell hb a1
            replace a2 := keep_cell hb a2
            replace a3 := keep_cell hb a3
            replace b0 := keep_cell hb b0
            replace b1 := keep_cell hb b1
            replace b2 := keep_cell hb b2
            replace b3 := keep_cell hb b3
            replace v0 := keep_cell hb v0
            replace v1 := keep_cell hb v1
            replace v2 := keep_cell hb v2
            replace v3 := keep_cell hb v3
            replace y0 := keep_cell hb y0
            replace y1 := keep_cell hb y1
            replace y2 := keep_cell hb y2
            replace y3 := keep_cell hb y3
            replace x0 := keep_cell hb x0
            replace x1 := keep_cell hb x1
            replace x2 := keep_cell hb x2
            replace x3 := keep_cell hb x3
            replace z0 := keep_cell hb z0
            replace z1 := keep_cell hb z1
            replace z2 := keep_cell hb z2
            replace z3 := keep_cell hb z3
            have k0 : W11.cell? ⟨w10.heap.size, 0, none⟩ = some (.int .i64 v.k) := by rw [← hW11]; simp [go_sem]
            have k1 : W11.cell? ⟨w10.heap.size, 1, none⟩ = some (.int .i64 v.i) := by rw [← hW11]; simp [go_sem]
            have k2 : W11.cell? ⟨w10.heap.size, 2, none⟩ = some (.int .u64 v.u) := by rw [← hW11]; simp [go_sem]
            have k3 : W11.cell? ⟨w10.heap.size, 3, none⟩ = some (.string v.s) := by rw [← hW11]; simp [go_sem]
            rw [hW11]
            replace hB4 := held_trans hB4 hb
            clear hW11 hb
            replace v0 := fun p => later_cell v0 p
            replace v1 := fun p => later_cell v1 p
            replace v2 := fun p => later_cell v2 p
            replace v3 := fun p => later_cell v3 p
            replace y0 := fun p => later_cell y0 p
            replace y1 := fun p => later_cell y1 p
            replace y2 := fun p => later_cell y2 p
            replace y3 := fun p => later_cell y3 p
            replace x0 := fun p => later_cell x0 p
            replace x1 := fun p => later_cell x1 p
            replace x2 := fun p => later_cell x2 p
            replace x3 := fun p => later_cell x3 p
            replace z0 := fun p => later_cell z0 p
            replace z1 := fun p => later_cell z1 p
            replace z2 := fun p => later_cell z2 p
            replace z3 := fun p => later_cell z3 p
            replace k0 := fun p => later_cell k0 p
            replace k1 := fun p => later_cell k1 p
            replace k2 := fun p => later_cell k2 p
            replace k3 := fun p => later_cell k3 p
            clear a0 a1 a2 a3 b0 b1 b2 b3
            have hev := eql_same v
            by_cases h4 : yn = 0
            · obtain ⟨p4, q4⟩ := hsb yn h4
              by_cases h5 : v = y
              · have h6 := (Prod.mk.inj (HEQ.out h5)).2
                have he1 : ∀ W, (binOp .eql 28 (.agg #[.int .i64 v.k, .int .i64 v.i, .int .u64 v.u, .string v.s]) (.agg #[.int .i64 y.k, .int .i64 y.i, .int .u64 y.u, .string y.s])).run Tryz.prog W = .ok (.bool true) W := fun W => by rw [h5]; exact eql_same y W
                have he2 : ∀ W, (binOp .eql 28 (.agg #[.int .i64 x.k, .int .i64 x.i, .int .u64 x.u, .string x.s]) (.agg #[.int .i64 z.k, .int .i64 z.i, .int .u64 z.u, .string z.s])).run Tryz.prog W = .ok (.bool true) W := fun W => by rw [h6]; exact eql_same z W
                refine wp_region_later (by kernel_rfl) (by kernel_rfl) ?_
                repeat (go_big_quiet_step ((first | (go_at_call 12; exact Calls.later_same (l6num_any _ _)) | (go_at_call 9; exact Calls.later (HWR.out _ (held_trans hB4 (Later.h _)))))))
                refine wpQuiet_nil ?_
                rintro w3 ⟨⟨W3, hb3⟩, rfl⟩
                go_wp2_with fail
                go_ret
                exact ⟨rfl, HB1.out.trans ((held_trans hB4 hb3).mono HB1.out.size)⟩
              · have h6 : x ≠ z := fun h => h5 (HON.out hcn h4 h)
                have he1 := eql_diff h5
                have he2 := eql_diff h6
                refine wp_region_later (by kernel_rfl) (by kernel_rfl) ?_
                repeat (go_big_quiet_step ((first | (go_at_call 12; exact Calls.later_same (l6num_any _ _)) | (go_at_call 9; exact Calls.later (HWR.out _ (held_trans hB4 (Later.h _)))))))
                refine wpQuiet_nil ?_
                rintro w3 ⟨⟨W3, hb3⟩, rfl⟩
                go_wp2_with fail
                go_ret
                exact ⟨rfl, HB1.out.trans ((held_trans hB4 hb3).mono HB1.out.size)⟩
            · obtain ⟨p4, q4⟩ := hsc yn h4
              refine wp_region_later (by kernel_rfl) (by kernel_rfl) ?_
              repeat (go_big_quiet_step ((first | (go_at_call 12; exact Calls.later_same (l6num_any _ _)) | (go_at_call 9; exact Calls.later (HWR.out _ (held_trans hB4 (Later.h _)))))))
              refine wpQuiet_nil ?_
              rintro w3 ⟨⟨W3, hb3⟩, rfl⟩
              go_wp2_with fail
              go_ret
              exact ⟨rfl, HB1.out.trans ((held_trans hB4 hb3).mono HB1.out.size)⟩
          · obtain ⟨p2, q2⟩ := hsc m h2
            go_upto_region 10 with (first | (go_at_call 12; refine (l6num_any _ _).mono ?_; rintro e w' ⟨rfl, rfl⟩) | (go_at_call 21; refine (HFT.out _ hB4).mono ?_; rintro e w8 ⟨rfl, hb⟩; replace a0 := keep_cell hb a0; replace a1 := keep_cell hb a1; replace a2 := keep_cell hb a2; replace a3 := keep_cell hb a3; replace b0 := keep_cell hb b0; replace b1 := keep_cell hb b1; replace b2 := keep_cell hb b2; replace b3 := keep_cell hb b3; replace v0 := keep_cell hb v0; replace v1 := keep_cell hb v1; replace v2 := keep_cell hb v2; replace v3 := keep_cell hb v3; replace y0 := keep_cell hb y0; replace y1 := keep_cell hb y1; replace y2 := keep_cell hb y2; replace y3 := keep_cell hb y3; replace x0 := keep_cell hb x0; replace x1 := keep_cell hb x1; replace x2 := keep_cell hb x2; replace x3 := keep_cell hb x3; replace z0 := keep_cell hb z0; replace z1 := keep_cell hb z1; replace z2 := keep_cell hb z2; replace z3 := keep_cell hb z3; replace hB4 := held_trans hB4 hb; clear hb))
            go_wp2_with fail
            refine (HBK.out hcn _ hB4).mono ?_
            rintro e w10 ⟨rfl, hb⟩
            replace a0 := keep_cell hb a0
            replace a1 := keep_cell hb a1
            replace a2 := keep_cell hb a2
            replace a3 := keep_cell hb a3
            replace b0 := keep_cell hb b0
            replace b1 := keep_cell hb b1
            replace b2 := keep_cell hb b2
            replace b3 := keep_cell hb b3
            replace v0 := keep_cell hb v0
            replace v1 := keep_cell hb v1
            replace v2 := keep_cell hb v2
            replace v3 := keep_cell hb v3
            replace y0 := keep_cell hb y0
            replace y1 := keep_cell hb y1
            replace y2 := keep_cell hb y2
            replace y3 := keep_cell hb y3
            replace x0 := keep_cell hb x0
            replace x1 := keep_cell hb x1
            replace x2 := keep_cell hb x2
            replace x3 := keep_cell hb x3
            replace z0 := keep_cell hb z0
            replace z1 := keep_cell hb z1
            replace z2 := keep_cell hb z2
            replace z3 := keep_cell hb z3
            replace hB4 := held_trans hB4 hb
            clear hb
            go_upto_region 11 with fail
            obtain ⟨W11, hW11⟩ : ∃ W, w10.alloc (.cells #[.int .i64 v.k, .int .i64 v.i, .int .u64 v.u, .string v.s] 28) = W := ⟨_, rfl⟩
            have hb : Below w10.heap.size w10 W11 := by rw [← hW11]; exact (Below.refl _ _).alloc (Nat.le_refl _) _
            replace a0 := keep_cell hb a0
            replace a1 := keep_cell hb a1
            replace a2 := keep_cell hb a2
            replace a3 := keep_cell hb a3
            replace b0 := keep_cell hb b0
            replace b1 := keep_cell hb b1
            replace b2 := keep_cell hb b2
            replace b3 := keep_cell hb b3
            replace v0 := keep_cell hb v0
            replace v1 := keep_cell hb v1
            replace v2 := keep_cell hb v2
            replace v3 := keep_cell hb v3
            replace y0 := keep_cell hb y0
            replace y1 := keep_cell hb y1
            replace y2 := keep_cell hb y2
            replace y3 := keep_cell hb y3
            replace x0 := keep_cell hb x0
            replace x1 := keep_cell hb x1
            replace x2 := keep_cell hb x2
            replace x3 := keep_cell hb x3
            replace z0 := keep_cell hb z0
            replace z1 := keep_cell hb z1
            replace z2 := keep_cell hb z2
            replace z3 := keep_cell hb z3
            have k0 : W11.cell? ⟨w10.heap.size, 0, none⟩ = some (.int .i64 v.k) := by rw [← hW11]; simp [go_sem]
            have k1 : W11.cell? ⟨w10.heap.size, 1, none⟩ = some (.int .i64 v.i) := by rw [← hW11]; simp [go_sem]
            have k2 : W11.cell? ⟨w10.heap.size, 2, none⟩ = some (.int .u64 v.u) := by rw [← hW11]; simp [go_sem]
            have k3 : W11.cell? ⟨w10.heap.size, 3, none⟩ = some (.string v.s) := by rw [← hW11]; simp [go_sem]
            rw [hW11]
            replace hB4 := held_trans hB4 hb
            clear hW11 hb
            replace v0 := fun p => later_cell v0 p
            replace v1 := fun p => later_cell v1 p
            replace v2 := fun p => later_cell v2 p
            replace v3 := fun p => later_cell v3 p
            replace y0 := fun p => later_cell y0 p
            replace y1 := fun p => later_cell y1 p
            replace y2 := fun p => later_cell y2 p
            replace y3 := fun p => later_cell y3 p
            replace x0 := fun p => later_cell x0 p
            replace x1 := fun p => later_cell x1 p
            replace x2 := fun p => later_cell x2 p
            replace x3 := fun p => later_cell x3 p
            replace z0 := fun p => later_cell z0 p
            replace z1 := fun p => later_cell z1 p
            replace z2 := fun p => later_cell z2 p
            replace z3 := fun p => later_cell z3 p
            replace k0 := fun p => later_cell k0 p
            replace k1 := fun p => later_cell k1 p
            replace k2 := fun p => later_cell k2 p
            replace k3 := fun p => later_cell k3 p
            clear a0 a1 a2 a3 b0 b1 b2 b3
            have hev := eql_same v
            by_cases h4 : yn = 0
            · obtain ⟨p4, q4⟩ := hsb yn h4
              by_cases h5 : v = y
              · have h6 := (Prod.mk.inj (HEQ.out h5)).2
                have he1 : ∀ W, (binOp .eql 28 (.agg #[.int .i64 v.k, .int .i64 v.i, .int .u64 v.u, .string v.s]) (.agg #[.int .i64 y.k, .int .i64 y.i, .int .u64 y.u, .string y.s])).run Tryz.prog W = .ok (.bool true) W := fun W => by rw [h5]; exact eql_same y W
                have he2 : ∀ W, (binOp .eql 28 (.agg #[.int .i64 x.k, .int .i64 x.i, .int .u64 x.u, .string x.s]) (.agg #[.int .i64 z.k, .int .i64 z.i, .int .u64 z.u, .string z.s])).run Tryz.prog W = .ok (.bool true) W := fun W => by rw [h6]; exact eql_same z W
                refine wp_region_later (by kernel_rfl) (by kernel_rfl) ?_
                repeat (go_big_quiet_step ((first | (go_at_call 12; exact Calls.later_same (l6num_any _ _)) | (go_at_call 9; exact Calls.later (HWR.out _ (held_trans hB4 (Later.h _)))))))
                refine wpQuiet_nil ?_
                rintro w3 ⟨⟨W3, hb3⟩, rfl⟩
                go_wp2_with fail
                go_ret
                exact ⟨rfl, HB1.out.trans ((held_trans hB4 hb3).mono HB1.out.size)⟩
              · have h6 : x ≠ z := fun h => h5 (HON.out hcn h4 h)
                have he1 := eql_diff h5
                have he2 := eql_diff h6
                refine wp_region_later (by kernel_rfl) (by kernel_rfl) ?_
                repeat (go_big_quiet_step ((first | (go_at_call 12; exact Calls.later_same (l6num_any _ _)) | (go_at_call 9; exact Calls.later (HWR.out _ (held_trans hB4 (Later.h _)))))))
                refine wpQuiet_nil ?_
                rintro w3 ⟨⟨W3, hb3⟩, rfl⟩
                go_wp2_with fail
                go_ret
                exact ⟨rfl, HB1.out.trans ((held_trans hB4 hb3).mono HB1.out.size)⟩
            · obtain ⟨p4, q4⟩ := hsc yn h4
              refine wp_region_later (by kernel_rfl) (by kernel_rfl) ?_
              repeat (go_big_quiet_step ((first | (go_at_call 12; exact Calls.later_same (l6num_any _ _)) | (go_at_call 9; exact Calls.later (HWR.out _ (held_trans hB4 (Later.h _)))))))
              refine wpQuiet_nil ?_
              rintro w3 ⟨⟨W3, hb3⟩, rfl⟩
              go_wp2_with fail
              go_ret
              exact ⟨rfl, HB1.out.trans ((held_trans hB4 hb3).mono HB1.out.size)⟩
      · obtain ⟨p1, q1⟩ := hsc se h1
        go_upto_region 10 with (first | (go_at_call 12; refine (l6num_any _ _).mono ?_; rintro e w' ⟨rfl, rfl⟩) | (go_at_call 21; refine (HFT.out _ hB4).mono ?_; rintro e w8 ⟨rfl, hb⟩; replace a0 := keep_cell hb a0; replace a1 := keep_cell hb a1; replace a2 := keep_cell hb a2; replace a3 := keep_cell hb a3; replace b0 := keep_cell hb b0; replace b1 := keep_cell hb b1; replace b2 := keep_cell hb b2; replace b3 := keep_cell hb b3; replace v0 := keep_cell hb v0; replace v1 := keep_cell hb v1; replace v2 := keep_cell hb v2; replace v3 := keep_cell hb v3; replace y0 := keep_cell hb y0; replace y1 := keep_cell hb y1; replace y2 := keep_cell hb y2; replace y3 := keep_cell hb y3; replace x0 := keep_cell hb x0; replace x1 := keep_cell hb x1; replace x2 := keep_cell hb x2; replace x3 := keep_cell hb x3; replace z0 := keep_cell hb z0; replace z1 := keep_cell hb z1; replace z2 := keep_cell hb z2; replace z3 := keep_cell hb z3; replace hB4 := held_trans hB4 hb; clear hb))
        go_wp2_with fail
        refine (HBK.out hcn _ hB4).mono ?_
        rintro e w10 ⟨rfl, hb⟩
        replace a0 := keep_cell hb a0
        replace a1 := keep_cell hb a1
        replace a2 := keep_cell hb a2
        replace a3 := keep_cell hb a3
        replace b0 := keep_cell hb b0
        replace b1 := keep_cell hb b1
        replace b2 := keep_cell hb b2
        replace b3 := keep_cell hb b3
        replace v0 := keep_cell hb v0
        replace v1 := keep_cell hb v1
        replace v2 := keep_cell hb v2
        replace v3 := keep_cell hb v3
        replace y0 := keep_cell hb y0
        replace y1 := keep_cell hb y1
        replace y2 := keep_cell hb y2
        replace y3 := keep_cell hb y3
        replace x0 := keep_cell hb x0
        replace x1 := keep_cell hb x1
        replace x2 := keep_cell hb x2
        replace x3 := keep_cell hb x3
        replace z0 := keep_cell hb z0
        replace z1 := keep_cell hb z1
        replace z2 := keep_cell hb z2
        replace z3 := keep_cell hb z3
        replace hB4 := held_trans hB4 hb
        clear hb
        go_upto_region 11 with fail
        obtain ⟨W11, hW11⟩ : ∃ W, w10.alloc (.cells #[.int .i64 v.k, .int .i64 v.i, .int .u64 v.u, .string v.s] 28) = W := ⟨_, rfl⟩
        have hb : Below w10.heap.size w10 W11 := by rw [← hW11]; exact (Below.refl _ _).alloc (Nat.le_refl _) _
        replace a0 := keep_cell hb a0
        replace a1 := keep_cell hb a1
        replace a2 := keep_cell hb a2
        replace a3 := keep_cell hb a3
        replace b0 := keep_cell hb b0
        replace b1 := keep_cell hb b1
        replace b2 := keep_cell hb b2
        replace b3 := keep_cell hb b3
        replace v0 := keep_cell hb v0
        replace v1 := keep_cell hb v1
        replace v2 := keep_cell hb v2
        replace v3 := keep_cell hb v3
        replace y0 := keep_cell hb y0
        replace y1 := keep_cell hb y1
        replace y2 := keep_cell hb y2
        replace y3 := keep_cell hb y3
        replace x0 := keep_cell hb x0
        replace x1 := keep_cell hb x1
        replace x2 := keep_cell hb x2
        replace x3 := keep_cell hb x3
        replace z0 := keep_cell hb z0
        replace z1 := keep_cell hb z1
        replace z2 := keep_cell hb z2
        replace z3 := keep_cell hb z3
        have k0 : W11.cell? ⟨w10.heap.size, 0, none⟩ = some (.int .i64 v.k) := by rw [← hW11]; simp [go_sem]
        have k1 : W11.cell? ⟨w10.heap.size, 1, none⟩ = some (.int .i64 v.i) := by rw [← hW11]; simp [go_sem]
        have k2 : W11.cell? ⟨w10.heap.size, 2, none⟩ = some (.int .u64 v.u) := by rw [← hW11]; simp [go_sem]
        have k3 : W11.cell? ⟨w10.heap.size, 3, none⟩ = some (.string v.s) := by rw [← hW11]; simp [go_sem]
        rw [hW11]
        replace hB4 := held_trans hB4 hb
        clear hW11 hb
        replace v0 := fun p => later_cell v0 p
        replace v1 := fun p => later_cell v1 p
        replace v2 := fun p => later_cell v2 p
        replace v3 := fun p => later_cell v3 p
        replace y0 := fun p => later_cell y0 p
        replace y1 := fun p => later_cell y1 p
        replace y2 := fun p => later_cell y2 p
        replace y3 := fun p => later_cell y3 p
        replace x0 := fun p => later_cell x0 p
        replace x1 := fun p => later_cell x1 p
        replace x2 := fun p => later_cell x2 p
        replace x3 := fun p => later_cell x3 p
        replace z0 := fun p => later_cell z0 p
        replace z1 := fun p => later_cell z1 p
        replace z2 := fun p => later_cell z2 p
        replace z3 := fun p => later_cell z3 p
        replace k0 := fun p => later_cell k0 p
        replace k1 := fun p => later_cell k1 p
        replace k2 := fun p => later_cell k2 p
        replace k3 := fun p => later_cell k3 p
        clear a0 a1 a2 a3 b0 b1 b2 b3
        have hev := eql_same v
        by_cases h4 : yn = 0
        · obtain ⟨p4, q4⟩ := hsb yn h4
          by_cases h5 : v = y
          · have h6 := (Prod.mk.inj (HEQ.out h5)).2
            have he1 : ∀ W, (binOp .eql 28 (.agg #[.int .i64 v.k, .int .i64 v.i, .int .u64 v.u, .string v.s]) (.agg #[.int .i64 y.k, .int .i64 y.i, .int .u64 y.u, .string y.s])).run Tryz.prog W = .ok (.bool true) W := fun W => by rw [h5]; exact eql_same y W
            have he2 : ∀ W, (binOp .eql 28 (.agg #[.int .i64 x.k, .int .i64 x.i, .int .u64 x.u, .string x.s]) (.agg #[.int .i64 z.k, .int .i64 z.i, .int .u64 z.u, .string z.s])).run Tryz.prog W = .ok (.bool true) W := fun W => by rw [h6]; exact eql_same z W
            refine wp_region_later (by kernel_rfl) (by kernel_rfl) ?_
            repeat (go_big_quiet_step ((first | (go_at_call 12; exact Calls.later_same (l6num_any _ _)) | (go_at_call 9; exact Calls.later (HWR.out _ (held_trans hB4 (Later.h _)))))))
            refine wpQuiet_nil ?_
            rintro w3 ⟨⟨W3, hb3⟩, rfl⟩
            go_wp2_with fail
            go_ret
            exact ⟨rfl, HB1.out.trans ((held_trans hB4 hb3).mono HB1.out.size)⟩
          · have h6 : x ≠ z := fun h => h5 (HON.out hcn h4 h)
            have he1 := eql_diff h5
            have he2 := eql_diff h6
            refine wp_region_later (by kernel_rfl) (by kernel_rfl) ?_
            repeat (go_big_quiet_step ((first | (go_at_call 12; exact Calls.later_same (l6num_any _ _)) | (go_at_call 9; exact Calls.later (HWR.out _ (held_trans hB4 (Later.h _)))))))
            refine wpQuiet_nil ?_
            rintro w3 ⟨⟨W3, hb3⟩, rfl⟩
            go_wp2_with fail
            go_ret
            exact ⟨rfl, HB1.out.trans ((held_trans hB4 hb3).mono HB1.out.size)⟩
        · obtain ⟨p4, q4⟩ := hsc yn h4
          refine wp_region_later (by kernel_rfl) (by kernel_rfl) ?_
          repeat (go_big_quiet_step ((first | (go_at_call 12; exact Calls.later_same (l6num_any _ _)) | (go_at_call 9; exact Calls.later (HWR.out _ (held_trans hB4 (Later.h _)))))))
          refine wpQuiet_nil ?_
          rintro w3 ⟨⟨W3, hb3⟩, rfl⟩
          go_wp2_with fail
          go_ret
          exact ⟨rfl, HB1.out.trans ((held_trans hB4 hb3).mono HB1.out.size)⟩
    · obtain ⟨p3, q3⟩ := hsc cn hcn
      by_cases h1 : se = 0
      · obtain ⟨p1, q1⟩ := hsb se h1
        cases ss
        · go_wp2_with (first | (go_at_call 12; refine (l6num_any _ _).mono ?_; rintro e w' ⟨rfl, rfl⟩) | (go_at_call 21; refine (HFT.out _ hB4).mono ?_; rintro e w8 ⟨rfl, hb⟩; replace a0 := keep_cell hb a0; replace a1 := keep_cell hb a1; replace a2 := keep_cell hb a2; replace a3 := keep_cell hb a3; replace b0 := keep_cell hb b0; replace b1 := keep_cell hb b1; replace b2 := keep_cell hb b2; replace b3 := keep_cell hb b3; replace v0 := keep_cell hb v0; replace v1 := keep_cell hb v1; replace v2 := keep_cell hb v2; replace v3 := keep_cell hb v3; replace y0 := keep_cell hb y0; replace y1 := keep_cell hb y1; replace y2 := keep_cell hb y2; replace y3 := keep_cell hb y3; replace x0 := keep_cell hb x0; replace x1 := keep_cell hb x1; replace x2 := keep_cell hb x2; replace x3 := keep_cell hb x3; replace z0 := keep_cell hb z0; replace z1 := keep_cell hb z1; replace z2 := keep_cell hb z2; replace z3 := keep_cell hb z3; replace hB4 := held_trans hB4 hb; clear hb) | (go_at_call 9; refine (HWK.out _ hB4).mono ?_; rintro e w9 ⟨rfl, hB9⟩))
          go_ret
          exact ⟨rfl, HB1.out.trans (hB9.mono HB1.out.size)⟩
        · by_cases h2 : m = 0
          · obtain ⟨p2, q2⟩ := hsb m h2
            exact absurd (HSN.out h1 rfl h2) hcn
          · obtain ⟨p2, q2⟩ := hsc m h2
            go_wp2_with (first | (go_at_call 12; refine (l6num_any _ _).mono ?_; rintro e w' ⟨rfl, rfl⟩) | (go_at_call 21; refine (HFT.out _ hB4).mono ?_; rintro e w8 ⟨rfl, hb⟩; replace a0 := keep_cell hb a0; replace a1 := keep_cell hb a1; replace a2 := keep_cell hb a2; replace a3 := keep_cell hb a3; replace b0 := keep_cell hb b0; replace b1 := keep_cell hb b1; replace b2 := keep_cell hb b2; replace b3 := keep_cell hb b3; replace v0 := keep_cell hb v0; replace v1 := keep_cell hb v1; replace v2 := keep_cell hb v2; replace v3 := keep_cell hb v3; replace y0 := keep_cell hb y0; replace y1 := keep_cell hb y1; replace y2 := keep_cell hb y2; replace y3 := keep_cell hb y3; replace x0 := keep_cell hb x0; replace x1 := keep_cell hb x1; replace x2 := keep_cell hb x2; replace x3 := keep_cell hb x3; replace z0 := keep_cell hb z0; replace z1 := keep_cell hb z1; replace z2 := keep_cell hb z2; replace z3 := keep_cell hb z3; replace hB4 := held_trans hB4 hb; clear hb) | (go_at_call 9; refine (HWK.out _ hB4).mono ?_; rintro e w9 ⟨rfl, hB9⟩))
            go_ret
            exact ⟨rfl, HB1.out.trans (hB9.mono HB1.out.size)⟩
      · obtain ⟨p1, q1⟩ := hsc se h1
        go_wp2_with (first | (go_at_call 12; refine (l6num_any _ _).mono ?_; rintro e w' ⟨rfl, rfl⟩) | (go_at_call 21; refine (HFT.out _ hB4).mono ?_; rintro e w8 ⟨rfl, hb⟩; replace a0 := keep_cell hb a0; replace a1 := keep_cell hb a1; replace a2 := keep_cell hb a2; replace a3 := keep_cell hb a3; replace b0 := keep_cell hb b0; replace b1 := keep_cell hb b1; replace b2 := keep_cell hb b2; replace b3 := keep_cell hb b3; replace v0 := keep_cell hb v0; replace v1 := keep_cell hb v1; replace v2 := keep_cell hb v2; replace v3 := keep_cell hb v3; replace y0 := keep_cell hb y0; replace y1 := keep_cell hb y1; replace y2 := keep_cell hb y2; replace y3 := keep_cell hb y3; replace x0 := keep_cell hb x0; replace x1 := keep_cell hb x1; replace x2 := keep_cell hb x2; replace x3 := keep_cell hb x3; replace z0 := keep_cell hb z0; replace z1 := keep_cell hb z1; replace z2 := keep_cell hb z2; replace z3 := keep_cell hb z3; replace hB4 := held_trans hB4 hb; clear hb) | (go_at_call 9; refine (HWK.out _ hB4).mono ?_; rintro e w9 ⟨rfl, hB9⟩))
        go_ret
        exact ⟨rfl, HB1.out.trans (hB9.mono HB1.out.size)⟩
  · have hdis : 40 < c.n.size ∨ 40 < d.n.size ∨ 300 < v.s.size ∨ 300 < y.s.size := by omega
    clear hsm hv hy
    go_wp2_with (first | (go_at_call 8; (with_reducible refine (HSH.out _ _ hB).mono ?_); rintro e w' ⟨rfl, hB⟩; obtain ⟨a0, a1, a2, a3, b0, b1, b2, b3, v0, v1, v2, v3, y0, y1, y2, y3⟩ := HSB.out _ hB) | (go_at_call 9; (with_reducible refine (HWK.out _ hB).mono ?_); rintro e w' ⟨rfl, hB⟩; obtain ⟨a0, a1, a2, a3, b0, b1, b2, b3, v0, v1, v2, v3, y0, y1, y2, y3⟩ := HSB.out _ hB))
    all_goals first
      | (exfalso; omega)
      | (go_ret; exact ⟨rfl, HB1.out.trans (hB.mono HB1.out.size)⟩)
end Go.Proofs.YtmgeefhacnadcaaGreatDoor
