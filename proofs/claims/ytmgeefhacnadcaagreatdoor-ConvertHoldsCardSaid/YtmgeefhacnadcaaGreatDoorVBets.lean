/-
  (convert.ways).between, end by end.
-/
import Derived.Test.YtmgeefhacnadcaaGreatDoorVBet0
namespace Go.Proofs.YtmgeefhacnadcaaGreatDoor
open Go.RowKit

set_option maxRecDepth 100000 in
set_option maxHeartbeats 4000000 in
theorem between_ok_found (c d : Col) (r : Nat) (w : World) (hE : Env w) (n1 : c.n.size ≤ 9223372036854775807) (n2 : d.n.size ≤ 9223372036854775807) (h1 : colOk c = true) (h2 : colOk d = true) (f g : Nat) (es : Array MapEntry) (cl : Nat) (hm : w.heap[r]? = some (.map es cl)) (hL : ∀ W : World, W.heap[r]? = some (.map es cl) → (Instr.lookup 69 (.map (some r)) (.agg #[.int .i64 c.t, .int .i64 d.t]) true).run Tryz.prog W = .ok (.tuple #[.agg #[.func (.func f) #[] #[], .func (.func g) #[] #[]], .bool true]) W) :
    Calls Tryz.prog 32 #[.map (some r), .agg #[.string c.n, .int .i64 c.t, .int .i64 c.z, .bool c.u], .agg #[.string d.n, .int .i64 d.t, .int .i64 d.z, .bool d.u]] w fun e w' => e = .returned (.tuple #[.agg #[.string d.n, .int .i64 d.t, .int .i64 d.z, .bool d.u, .string c.n, .int .i64 c.t, .int .i64 c.z, .bool c.u, .func (.func f) #[] #[], .func (.func g) #[] #[], .bool true], .nilIface]) ∧ Below w.heap.size w w' := by
  have HF : Hid (∀ (x : Col) W, x.n.size ≤ 9223372036854775807 → Below w.heap.size w W → Calls Tryz.prog 21 #[.agg #[.string x.n, .int .i64 x.t, .int .i64 x.z, .bool x.u], .agg #[.int .i64 0, .int .i64 0, .int .u64 0, .string ⟨#[]⟩]] W fun e w' => e = .returned (.int .i64 (fitsN x v0N)) ∧ Below W.heap.size W w') := Lib.hid (fun x W h hb => fits0_any x W (hE.keep hb) h)
  clear hE
  obtain ⟨m1, hm1⟩ : ∃ m, fitsN c v0N = m := ⟨_, rfl⟩
  obtain ⟨m2, hm2⟩ : ∃ m, fitsN d v0N = m := ⟨_, rfl⟩
  have e1 : (m1 == 2) = false := by rw [← hm1, beq_eq_false_iff_ne]; rcases fits_zero c with ⟨_, h⟩ | ⟨h, _⟩; (· rw [h1] at h; cases h); (· exact h)
  have e2 : (m2 == 2) = false := by rw [← hm2, beq_eq_false_iff_ne]; rcases fits_zero d with ⟨_, h⟩ | ⟨h, _⟩; (· rw [h2] at h; cases h); (· exact h)
  have HM1 := Lib.hid hm1
  have HM2 := Lib.hid hm2
  have HM := Lib.hid hm
  have HLL := Lib.hid hL
  clear hm1 hm2 h1 h2 hm hL
  go_enter Tryz.func32, Tryz.ntmps32
  go_wp2_with (go_at_call 71; refine (Of_any _ _ _).mono ?_; rintro e w' ⟨rfl, rfl⟩)
  obtain ⟨W1, hW1⟩ : ∃ W1, ((w.alloc (.cells #[.string c.n, .int .i64 c.t, .int .i64 c.z, .bool c.u] 24)).alloc (.cells #[.string d.n, .int .i64 d.t, .int .i64 d.z, .bool d.u] 24)).alloc (.cells #[.string ⟨#[]⟩, .int .i64 0, .int .i64 0, .bool false, .string ⟨#[]⟩, .int .i64 0, .int .i64 0, .bool false, .nilFunc, .nilFunc, .bool false] 80) = W1 := ⟨_, rfl⟩
  have hb1 : Below w.heap.size w W1 := by rw [← hW1]; exact (((Below.refl _ _).alloc (Nat.le_refl _) _).alloc (by simp) _).alloc (by simp; omega) _
  have hs1 : W1.heap.size = w.heap.size + 1 + 1 + 1 := by rw [← hW1]; simp
  have a0 : W1.cell? ⟨w.heap.size, 0, none⟩ = some (.string c.n) := by rw [← hW1]; simp [go_sem]
  have a1 : W1.cell? ⟨w.heap.size, 1, none⟩ = some (.int .i64 c.t) := by rw [← hW1]; simp [go_sem]
  have a2 : W1.cell? ⟨w.heap.size, 2, none⟩ = some (.int .i64 c.z) := by rw [← hW1]; simp [go_sem]
  have a3 : W1.cell? ⟨w.heap.size, 3, none⟩ = some (.bool c.u) := by rw [← hW1]; simp [go_sem]
  have b0 : W1.cell? ⟨w.heap.size + 1, 0, none⟩ = some (.string d.n) := by rw [← hW1]; simp [go_sem]
  have b1 : W1.cell? ⟨w.heap.size + 1, 1, none⟩ = some (.int .i64 d.t) := by rw [← hW1]; simp [go_sem]
  have b2 : W1.cell? ⟨w.heap.size + 1, 2, none⟩ = some (.int .i64 d.z) := by rw [← hW1]; simp [go_sem]
  have b3 : W1.cell? ⟨w.heap.size + 1, 3, none⟩ = some (.bool d.u) := by rw [← hW1]; simp [go_sem]
  have r0 : W1.cell? ⟨w.heap.size + 1 + 1, 0, none⟩ = some (.string ⟨#[]⟩) := by rw [← hW1]; simp [go_sem]
  have r1 : W1.cell? ⟨w.heap.size + 1 + 1, 1, none⟩ = some (.int .i64 0) := by rw [← hW1]; simp [go_sem]
  have r2 : W1.cell? ⟨w.heap.size + 1 + 1, 2, none⟩ = some (.int .i64 0) := by rw [← hW1]; simp [go_sem]
  have r3 : W1.cell? ⟨w.heap.size + 1 + 1, 3, none⟩ = some (.bool false) := by rw [← hW1]; simp [go_sem]
  have r4 : W1.cell? ⟨w.heap.size + 1 + 1, 4, none⟩ = some (.string ⟨#[]⟩) := by rw [← hW1]; simp [go_sem]
  have r5 : W1.cell? ⟨w.heap.size + 1 + 1, 5, none⟩ = some (.int .i64 0) := by rw [← hW1]; simp [go_sem]
  have r6 : W1.cell? ⟨w.heap.size + 1 + 1, 6, none⟩ = some (.int .i64 0) := by rw [← hW1]; simp [go_sem]
  have r7 : W1.cell? ⟨w.heap.size + 1 + 1, 7, none⟩ = some (.bool false) := by rw [← hW1]; simp [go_sem]
  have r8 : W1.cell? ⟨w.heap.size + 1 + 1, 8, none⟩ = some (.nilFunc) := by rw [← hW1]; simp [go_sem]
  have r9 : W1.cell? ⟨w.heap.size + 1 + 1, 9, none⟩ = some (.nilFunc) := by rw [← hW1]; simp [go_sem]
  have r10 : W1.cell? ⟨w.heap.size + 1 + 1, 10, none⟩ = some (.bool false) := by rw [← hW1]; simp [go_sem]
  have fr0 : W1.frozen? ⟨w.heap.size + 1 + 1, 0, none⟩ = false := by rw [← hW1]; simp [go_sem]
  have fr1 : W1.frozen? ⟨w.heap.size + 1 + 1, 1, none⟩ = false := by rw [← hW1]; simp [go_sem]
  have fr2 : W1.frozen? ⟨w.heap.size + 1 + 1, 2, none⟩ = false := by rw [← hW1]; simp [go_sem]
  have fr3 : W1.frozen? ⟨w.heap.size + 1 + 1, 3, none⟩ = false := by rw [← hW1]; simp [go_sem]
  have fr4 : W1.frozen? ⟨w.heap.size + 1 + 1, 4, none⟩ = false := by rw [← hW1]; simp [go_sem]
  have fr5 : W1.frozen? ⟨w.heap.size + 1 + 1, 5, none⟩ = false := by rw [← hW1]; simp [go_sem]
  have fr6 : W1.frozen? ⟨w.heap.size + 1 + 1, 6, none⟩ = false := by rw [← hW1]; simp [go_sem]
  have fr7 : W1.frozen? ⟨w.heap.size + 1 + 1, 7, none⟩ = false := by rw [← hW1]; simp [go_sem]
  have fr8 : W1.frozen? ⟨w.heap.size + 1 + 1, 8, none⟩ = false := by rw [← hW1]; simp [go_sem]
  have fr9 : W1.frozen? ⟨w.heap.size + 1 + 1, 9, none⟩ = false := by rw [← hW1]; simp [go_sem]
  have fr10 : W1.frozen? ⟨w.heap.size + 1 + 1, 10, none⟩ = false := by rw [← hW1]; simp [go_sem]
  rw [hW1]
  have HB1 := Lib.hid hb1
  clear hW1 hb1
  have hi0 : ∀ W, (Instr.index 112 (.agg #[.string c.n, .int .i64 c.t, .int .i64 c.z, .bool c.u, .string d.n, .int .i64 d.t, .int .i64 d.z, .bool d.u]) (.int .i64 0)).run Tryz.prog W = .ok (.agg #[.string c.n, .int .i64 c.t, .int .i64 c.z, .bool c.u]) W := fun W => by kernel_rfl
  have hi1 : ∀ W, (Instr.index 112 (.agg #[.string c.n, .int .i64 c.t, .int .i64 c.z, .bool c.u, .string d.n, .int .i64 d.t, .int .i64 d.z, .bool d.u]) (.int .i64 1)).run Tryz.prog W = .ok (.agg #[.string d.n, .int .i64 d.t, .int .i64 d.z, .bool d.u]) W := fun W => by kernel_rfl
  refine wp_loop_rounds 3 ?_
  rw [rounds_succ]
  go_wp2_with (go_at_call 71; refine (Of_any _ _ _).mono ?_; rintro e w' ⟨rfl, rfl⟩)
  refine (HF.out c _ n1 (HB1.out.alloc HB1.out.size _)).mono ?_
  rintro e w2 ⟨rfl, hb2⟩
  rw [HM1.out]
  have hb2' := (Below.refl W1.heap.size W1).alloc (Nat.le_refl _) (.cells #[.string c.n, .int .i64 c.t, .int .i64 c.z, .bool c.u] 24) |>.trans (hb2.mono (by simp))
  have HB2 := Lib.hid (HB1.out.trans (hb2'.mono HB1.out.size))

  replace fr0 := keep_frozen hb2' (World.block_lt_of_cell? _ _ r0) fr0
  replace fr1 := keep_frozen hb2' (World.block_lt_of_cell? _ _ r1) fr1
  replace fr2 := keep_frozen hb2' (World.block_lt_of_cell? _ _ r2) fr2
  replace fr3 := keep_frozen hb2' (World.block_lt_of_cell? _ _ r3) fr3
  replace fr4 := keep_frozen hb2' (World.block_lt_of_cell? _ _ r4) fr4
  replace fr5 := keep_frozen hb2' (World.block_lt_of_cell? _ _ r5) fr5
  replace fr6 := keep_frozen hb2' (World.block_lt_of_cell? _ _ r6) fr6
  replace fr7 := keep_frozen hb2' (World.block_lt_of_cell? _ _ r7) fr7
  replace fr8 := keep_frozen hb2' (World.block_lt_of_cell? _ _ r8) fr8
  replace fr9 := keep_frozen hb2' (World.block_lt_of_cell? _ _ r9) fr9
  replace fr10 := keep_frozen hb2' (World.block_lt_of_cell? _ _ r10) fr10
  replace a0 := keep_cell hb2' a0
  replace a1 := keep_cell hb2' a1
  replace a2 := keep_cell hb2' a2
  replace a3 := keep_cell hb2' a3
  replace b0 := keep_cell hb2' b0
  replace b1 := keep_cell hb2' b1
  replace b2 := keep_cell hb2' b2
  replace b3 := keep_cell hb2' b3
  replace r0 := keep_cell hb2' r0
  replace r1 := keep_cell hb2' r1
  replace r2 := keep_cell hb2' r2
  replace r3 := keep_cell hb2' r3
  replace r4 := keep_cell hb2' r4
  replace r5 := keep_cell hb2' r5
  replace r6 := keep_cell hb2' r6
  replace r7 := keep_cell hb2' r7
  replace r8 := keep_cell hb2' r8
  replace r9 := keep_cell hb2' r9
  replace r10 := keep_cell hb2' r10
  clear hb2 hb2'
  go_wp2_with (go_at_call 71; refine (Of_any _ _ _).mono ?_; rintro e w' ⟨rfl, rfl⟩)
  rw [rounds_succ]
  go_wp2_with (go_at_call 71; refine (Of_any _ _ _).mono ?_; rintro e w' ⟨rfl, rfl⟩)
  refine (HF.out d _ n2 (HB2.out.alloc HB2.out.size _)).mono ?_
  rintro e w3 ⟨rfl, hb3⟩
  rw [HM2.out]
  have hb3' := (Below.refl w2.heap.size w2).alloc (Nat.le_refl _) (.cells #[.string d.n, .int .i64 d.t, .int .i64 d.z, .bool d.u] 24) |>.trans (hb3.mono (by simp))
  have HB3 := Lib.hid (HB2.out.trans (hb3'.mono HB2.out.size))

  replace fr0 := keep_frozen hb3' (World.block_lt_of_cell? _ _ r0) fr0
  replace fr1 := keep_frozen hb3' (World.block_lt_of_cell? _ _ r1) fr1
  replace fr2 := keep_frozen hb3' (World.block_lt_of_cell? _ _ r2) fr2
  replace fr3 := keep_frozen hb3' (World.block_lt_of_cell? _ _ r3) fr3
  replace fr4 := keep_frozen hb3' (World.block_lt_of_cell? _ _ r4) fr4
  replace fr5 := keep_frozen hb3' (World.block_lt_of_cell? _ _ r5) fr5
  replace fr6 := keep_frozen hb3' (World.block_lt_of_cell? _ _ r6) fr6
  replace fr7 := keep_frozen hb3' (World.block_lt_of_cell? _ _ r7) fr7
  replace fr8 := keep_frozen hb3' (World.block_lt_of_cell? _ _ r8) fr8
  replace fr9 := keep_frozen hb3' (World.block_lt_of_cell? _ _ r9) fr9
  replace fr10 := keep_frozen hb3' (World.block_lt_of_cell? _ _ r10) fr10
  replace a0 := keep_cell hb3' a0
  replace a1 := keep_cell hb3' a1
  replace a2 := keep_cell hb3' a2
  replace a3 := keep_cell hb3' a3
  replace b0 := keep_cell hb3' b0
  replace b1 := keep_cell hb3' b1
  replace b2 := keep_cell hb3' b2
  replace b3 := keep_cell hb3' b3
  replace r0 := keep_cell hb3' r0
  replace r1 := keep_cell hb3' r1
  replace r2 := keep_cell hb3' r2
  replace r3 := keep_cell hb3' r3
  replace r4 := keep_cell hb3' r4
  replace r5 := keep_cell hb3' r5
  replace r6 := keep_cell hb3' r6
  replace r7 := keep_cell hb3' r7
  replace r8 := keep_cell hb3' r8
  replace r9 := keep_cell hb3' r9
  replace r10 := keep_cell hb3' r10
  clear hb3 hb3'
  have hz2 : w.heap.size + 1 + 1 < w3.heap.size := World.block_lt_of_cell? _ _ r0
  have hz1 : w.heap.size + 1 < w3.heap.size := by omega
  have hz0 : w.heap.size < w3.heap.size := by omega
  have hbld : ∀ W, (Instr.build 80 #[(0, .agg #[.string d.n, .int .i64 d.t, .int .i64 d.z, .bool d.u]), (1, .agg #[.string c.n, .int .i64 c.t, .int .i64 c.z, .bool c.u]), (2, .agg #[.func (.func f) #[] #[], .func (.func g) #[] #[]]), (3, .bool true)]).run Tryz.prog W = .ok (.agg #[.string d.n, .int .i64 d.t, .int .i64 d.z, .bool d.u, .string c.n, .int .i64 c.t, .int .i64 c.z, .bool c.u, .func (.func f) #[] #[], .func (.func g) #[] #[], .bool true]) W := fun W => by kernel_rfl
  have hLW := HLL.out w3 (by rw [HB3.out.block r (Array.getElem?_eq_some_iff.1 HM.out).1]; exact HM.out)
  go_wp2_with (go_at_call 71; refine (Of_any _ _ _).mono ?_; rintro e w' ⟨rfl, rfl⟩)
  rw [rounds_succ]
  go_upto_region 8 with fail
  obtain ⟨W5, hW5⟩ : ∃ W5, w3.alloc (.cells #[.func (.func f) #[] #[], .func (.func g) #[] #[]] 78) = W5 := ⟨_, rfl⟩
  have hb5 : Below w3.heap.size w3 W5 := by rw [← hW5]; exact (Below.refl _ _).alloc (Nat.le_refl _) _
  have q0 : W5.cell? ⟨w3.heap.size, 0, none⟩ = some (.func (.func f) #[] #[]) := by rw [← hW5]; simp [go_sem]
  have q1 : W5.cell? ⟨w3.heap.size, 1, none⟩ = some (.func (.func g) #[] #[]) := by rw [← hW5]; simp [go_sem]

  replace fr0 := keep_frozen hb5 (World.block_lt_of_cell? _ _ r0) fr0
  replace fr1 := keep_frozen hb5 (World.block_lt_of_cell? _ _ r1) fr1
  replace fr2 := keep_frozen hb5 (World.block_lt_of_cell? _ _ r2) fr2
  replace fr3 := keep_frozen hb5 (World.block_lt_of_cell? _ _ r3) fr3
  replace fr4 := keep_frozen hb5 (World.block_lt_of_cell? _ _ r4) fr4
  replace fr5 := keep_frozen hb5 (World.block_lt_of_cell? _ _ r5) fr5
  replace fr6 := keep_frozen hb5 (World.block_lt_of_cell? _ _ r6) fr6
  replace fr7 := keep_frozen hb5 (World.block_lt_of_cell? _ _ r7) fr7
  replace fr8 := keep_frozen hb5 (World.block_lt_of_cell? _ _ r8) fr8
  replace fr9 := keep_frozen hb5 (World.block_lt_of_cell? _ _ r9) fr9
  replace fr10 := keep_frozen hb5 (World.block_lt_of_cell? _ _ r10) fr10
  replace a0 := keep_cell hb5 a0
  replace a1 := keep_cell hb5 a1
  replace a2 := keep_cell hb5 a2
  replace a3 := keep_cell hb5 a3
  replace b0 := keep_cell hb5 b0
  replace b1 := keep_cell hb5 b1
  replace b2 := keep_cell hb5 b2
  replace b3 := keep_cell hb5 b3
  replace r0 := keep_cell hb5 r0
  replace r1 := keep_cell hb5 r1
  replace r2 := keep_cell hb5 r2
  replace r3 := keep_cell hb5 r3
  replace r4 := keep_cell hb5 r4
  replace r5 := keep_cell hb5 r5
  replace r6 := keep_cell hb5 r6
  replace r7 := keep_cell hb5 r7
  replace r8 := keep_cell hb5 r8
  replace r9 := keep_cell hb5 r9
  replace r10 := keep_cell hb5 r10
  rw [hW5]
  have HB5 := Lib.hid (HB3.out.trans (hb5.mono HB3.out.size))
  have hy : w.heap.size + 1 + 1 < W5.heap.size := World.block_lt_of_cell? _ _ r0
  clear hW5 hb5 hz0 hz1 hz2 hLW hi0 hi1 e1 e2
  go_wp2_with (go_at_call 71; refine (Of_any _ _ _).mono ?_; rintro e w' ⟨rfl, rfl⟩)
  show bodyPost _ _ _ _ _ (setAll (w.heap.size + 1 + 1) W5 0 [.string d.n, .int .i64 d.t, .int .i64 d.z, .bool d.u, .string c.n, .int .i64 c.t, .int .i64 c.z, .bool c.u, .func (.func f) #[] #[], .func (.func g) #[] #[], .bool true])
  have hk := setAll_cell (w.heap.size + 1 + 1) [.string d.n, .int .i64 d.t, .int .i64 d.z, .bool d.u, .string c.n, .int .i64 c.t, .int .i64 c.z, .bool c.u, .func (.func f) #[] #[], .func (.func g) #[] #[], .bool true] W5 0 (fun i hi => by
    have hi' : i < 11 := hi
    rw [Nat.zero_add]
    match i, hi' with

    | 0, _ => rw [r0]; rfl
    | 1, _ => rw [r1]; rfl
    | 2, _ => rw [r2]; rfl
    | 3, _ => rw [r3]; rfl
    | 4, _ => rw [r4]; rfl
    | 5, _ => rw [r5]; rfl
    | 6, _ => rw [r6]; rfl
    | 7, _ => rw [r7]; rfl
    | 8, _ => rw [r8]; rfl
    | 9, _ => rw [r9]; rfl
    | 10, _ => rw [r10]; rfl
    | n + 11, h => omega)
  have hB := setAll_below (B := w.heap.size) (w := w) (w.heap.size + 1 + 1) (by omega) [.string d.n, .int .i64 d.t, .int .i64 d.z, .bool d.u, .string c.n, .int .i64 c.t, .int .i64 c.z, .bool c.u, .func (.func f) #[] #[], .func (.func g) #[] #[], .bool true] W5 0 HB5.out
  generalize setAll (w.heap.size + 1 + 1) W5 0 [.string d.n, .int .i64 d.t, .int .i64 d.z, .bool d.u, .string c.n, .int .i64 c.t, .int .i64 c.z, .bool c.u, .func (.func f) #[] #[], .func (.func g) #[] #[], .bool true] = WF at hk hB ⊢

  have k0 : WF.cell? ⟨w.heap.size + 1 + 1, 0, none⟩ = some (.string d.n) := hk 0 (by simp)
  have k1 : WF.cell? ⟨w.heap.size + 1 + 1, 1, none⟩ = some (.int .i64 d.t) := hk 1 (by simp)
  have k2 : WF.cell? ⟨w.heap.size + 1 + 1, 2, none⟩ = some (.int .i64 d.z) := hk 2 (by simp)
  have k3 : WF.cell? ⟨w.heap.size + 1 + 1, 3, none⟩ = some (.bool d.u) := hk 3 (by simp)
  have k4 : WF.cell? ⟨w.heap.size + 1 + 1, 4, none⟩ = some (.string c.n) := hk 4 (by simp)
  have k5 : WF.cell? ⟨w.heap.size + 1 + 1, 5, none⟩ = some (.int .i64 c.t) := hk 5 (by simp)
  have k6 : WF.cell? ⟨w.heap.size + 1 + 1, 6, none⟩ = some (.int .i64 c.z) := hk 6 (by simp)
  have k7 : WF.cell? ⟨w.heap.size + 1 + 1, 7, none⟩ = some (.bool c.u) := hk 7 (by simp)
  have k8 : WF.cell? ⟨w.heap.size + 1 + 1, 8, none⟩ = some (.func (.func f) #[] #[]) := hk 8 (by simp)
  have k9 : WF.cell? ⟨w.heap.size + 1 + 1, 9, none⟩ = some (.func (.func g) #[] #[]) := hk 9 (by simp)
  have k10 : WF.cell? ⟨w.heap.size + 1 + 1, 10, none⟩ = some (.bool true) := hk 10 (by simp)
  clear hk
  refine bodyPost_ret (v := .tuple #[.agg #[.string d.n, .int .i64 d.t, .int .i64 d.z, .bool d.u, .string c.n, .int .i64 c.t, .int .i64 c.z, .bool c.u, .func (.func f) #[] #[], .func (.func g) #[] #[], .bool true], .nilIface]) (by simp [results, Tryz.results32, go_sem, k0, k1, k2, k3, k4, k5, k6, k7, k8, k9, k10]) rfl ⟨rfl, hB⟩
end Go.Proofs.YtmgeefhacnadcaaGreatDoor
namespace Go.Proofs.YtmgeefhacnadcaaGreatDoor
open Go.RowKit

set_option maxRecDepth 100000 in
set_option maxHeartbeats 4000000 in
theorem between_ok_none (c d : Col) (r : Nat) (w : World) (hE : Env w) (n1 : c.n.size ≤ 9223372036854775807) (n2 : d.n.size ≤ 9223372036854775807) (h1 : colOk c = true) (h2 : colOk d = true) (es : Array MapEntry) (cl : Nat) (hm : w.heap[r]? = some (.map es cl)) (hL : ∀ W : World, W.heap[r]? = some (.map es cl) → (Instr.lookup 69 (.map (some r)) (.agg #[.int .i64 c.t, .int .i64 d.t]) true).run Tryz.prog W = .ok (.tuple #[.agg #[.nilFunc, .nilFunc], .bool false]) W) :
    Calls Tryz.prog 32 #[.map (some r), .agg #[.string c.n, .int .i64 c.t, .int .i64 c.z, .bool c.u], .agg #[.string d.n, .int .i64 d.t, .int .i64 d.z, .bool d.u]] w fun e w' => e = .returned (.tuple #[.agg #[.string d.n, .int .i64 d.t, .int .i64 d.z, .bool d.u, .string c.n, .int .i64 c.t, .int .i64 c.z, .bool c.u, .nilFunc, .nilFunc, .bool false], .nilIface]) ∧ Below w.heap.size w w' := by
  have HF : Hid (∀ (x : Col) W, x.n.size ≤ 9223372036854775807 → Below w.heap.size w W → Calls Tryz.prog 21 #[.agg #[.string x.n, .int .i64 x.t, .int .i64 x.z, .bool x.u], .agg #[.int .i64 0, .int .i64 0, .int .u64 0, .string ⟨#[]⟩]] W fun e w' => e = .returned (.int .i64 (fitsN x v0N)) ∧ Below W.heap.size W w') := Lib.hid (fun x W h hb => fits0_any x W (hE.keep hb) h)
  clear hE
  obtain ⟨m1, hm1⟩ : ∃ m, fitsN c v0N = m := ⟨_, rfl⟩
  obtain ⟨m2, hm2⟩ : ∃ m, fitsN d v0N = m := ⟨_, rfl⟩
  have e1 : (m1 == 2) = false := by rw [← hm1, beq_eq_false_iff_ne]; rcases fits_zero c with ⟨_, h⟩ | ⟨h, _⟩; (· rw [h1] at h; cases h); (· exact h)
  have e2 : (m2 == 2) = false := by rw [← hm2, beq_eq_false_iff_ne]; rcases fits_zero d with ⟨_, h⟩ | ⟨h, _⟩; (· rw [h2] at h; cases h); (· exact h)
  have HM1 := Lib.hid hm1
  have HM2 := Lib.hid hm2
  have HM := Lib.hid hm
  have HLL := Lib.hid hL
  clear hm1 hm2 h1 h2 hm hL
  go_enter Tryz.func32, Tryz.ntmps32
  go_wp2_with (go_at_call 71; refine (Of_any _ _ _).mono ?_; rintro e w' ⟨rfl, rfl⟩)
  obtain ⟨W1, hW1⟩ : ∃ W1, ((w.alloc (.cells #[.string c.n, .int .i64 c.t, .int .i64 c.z, .bool c.u] 24)).alloc (.cells #[.string d.n, .int .i64 d.t, .int .i64 d.z, .bool d.u] 24)).alloc (.cells #[.string ⟨#[]⟩, .int .i64 0, .int .i64 0, .bool false, .string ⟨#[]⟩, .int .i64 0, .int .i64 0, .bool false, .nilFunc, .nilFunc, .bool false] 80) = W1 := ⟨_, rfl⟩
  have hb1 : Below w.heap.size w W1 := by rw [← hW1]; exact (((Below.refl _ _).alloc (Nat.le_refl _) _).alloc (by simp) _).alloc (by simp; omega) _
  have hs1 : W1.heap.size = w.heap.size + 1 + 1 + 1 := by rw [← hW1]; simp
  have a0 : W1.cell? ⟨w.heap.size, 0, none⟩ = some (.string c.n) := by rw [← hW1]; simp [go_sem]
  have a1 : W1.cell? ⟨w.heap.size, 1, none⟩ = some (.int .i64 c.t) := by rw [← hW1]; simp [go_sem]
  have a2 : W1.cell? ⟨w.heap.size, 2, none⟩ = some (.int .i64 c.z) := by rw [← hW1]; simp [go_sem]
  have a3 : W1.cell? ⟨w.heap.size, 3, none⟩ = some (.bool c.u) := by rw [← hW1]; simp [go_sem]
  have b0 : W1.cell? ⟨w.heap.size + 1, 0, none⟩ = some (.string d.n) := by rw [← hW1]; simp [go_sem]
  have b1 : W1.cell? ⟨w.heap.size + 1, 1, none⟩ = some (.int .i64 d.t) := by rw [← hW1]; simp [go_sem]
  have b2 : W1.cell? ⟨w.heap.size + 1, 2, none⟩ = some (.int .i64 d.z) := by rw [← hW1]; simp [go_sem]
  have b3 : W1.cell? ⟨w.heap.size + 1, 3, none⟩ = some (.bool d.u) := by rw [← hW1]; simp [go_sem]
  have r0 : W1.cell? ⟨w.heap.size + 1 + 1, 0, none⟩ = some (.string ⟨#[]⟩) := by rw [← hW1]; simp [go_sem]
  have r1 : W1.cell? ⟨w.heap.size + 1 + 1, 1, none⟩ = some (.int .i64 0) := by rw [← hW1]; simp [go_sem]
  have r2 : W1.cell? ⟨w.heap.size + 1 + 1, 2, none⟩ = some (.int .i64 0) := by rw [← hW1]; simp [go_sem]
  have r3 : W1.cell? ⟨w.heap.size + 1 + 1, 3, none⟩ = some (.bool false) := by rw [← hW1]; simp [go_sem]
  have r4 : W1.cell? ⟨w.heap.size + 1 + 1, 4, none⟩ = some (.string ⟨#[]⟩) := by rw [← hW1]; simp [go_sem]
  have r5 : W1.cell? ⟨w.heap.size + 1 + 1, 5, none⟩ = some (.int .i64 0) := by rw [← hW1]; simp [go_sem]
  have r6 : W1.cell? ⟨w.heap.size + 1 + 1, 6, none⟩ = some (.int .i64 0) := by rw [← hW1]; simp [go_sem]
  have r7 : W1.cell? ⟨w.heap.size + 1 + 1, 7, none⟩ = some (.bool false) := by rw [← hW1]; simp [go_sem]
  have r8 : W1.cell? ⟨w.heap.size + 1 + 1, 8, none⟩ = some (.nilFunc) := by rw [← hW1]; simp [go_sem]
  have r9 : W1.cell? ⟨w.heap.size + 1 + 1, 9, none⟩ = some (.nilFunc) := by rw [← hW1]; simp [go_sem]
  have r10 : W1.cell? ⟨w.heap.size + 1 + 1, 10, none⟩ = some (.bool false) := by rw [← hW1]; simp [go_sem]
  have fr0 : W1.frozen? ⟨w.heap.size + 1 + 1, 0, none⟩ = false := by rw [← hW1]; simp [go_sem]
  have fr1 : W1.frozen? ⟨w.heap.size + 1 + 1, 1, none⟩ = false := by rw [← hW1]; simp [go_sem]
  have fr2 : W1.frozen? ⟨w.heap.size + 1 + 1, 2, none⟩ = false := by rw [← hW1]; simp [go_sem]
  have fr3 : W1.frozen? ⟨w.heap.size + 1 + 1, 3, none⟩ = false := by rw [← hW1]; simp [go_sem]
  have fr4 : W1.frozen? ⟨w.heap.size + 1 + 1, 4, none⟩ = false := by rw [← hW1]; simp [go_sem]
  have fr5 : W1.frozen? ⟨w.heap.size + 1 + 1, 5, none⟩ = false := by rw [← hW1]; simp [go_sem]
  have fr6 : W1.frozen? ⟨w.heap.size + 1 + 1, 6, none⟩ = false := by rw [← hW1]; simp [go_sem]
  have fr7 : W1.frozen? ⟨w.heap.size + 1 + 1, 7, none⟩ = false := by rw [← hW1]; simp [go_sem]
  have fr8 : W1.frozen? ⟨w.heap.size + 1 + 1, 8, none⟩ = false := by rw [← hW1]; simp [go_sem]
  have fr9 : W1.frozen? ⟨w.heap.size + 1 + 1, 9, none⟩ = false := by rw [← hW1]; simp [go_sem]
  have fr10 : W1.frozen? ⟨w.heap.size + 1 + 1, 10, none⟩ = false := by rw [← hW1]; simp [go_sem]
  rw [hW1]
  have HB1 := Lib.hid hb1
  clear hW1 hb1
  have hi0 : ∀ W, (Instr.index 112 (.agg #[.string c.n, .int .i64 c.t, .int .i64 c.z, .bool c.u, .string d.n, .int .i64 d.t, .int .i64 d.z, .bool d.u]) (.int .i64 0)).run Tryz.prog W = .ok (.agg #[.string c.n, .int .i64 c.t, .int .i64 c.z, .bool c.u]) W := fun W => by kernel_rfl
  have hi1 : ∀ W, (Instr.index 112 (.agg #[.string c.n, .int .i64 c.t, .int .i64 c.z, .bool c.u, .string d.n, .int .i64 d.t, .int .i64 d.z, .bool d.u]) (.int .i64 1)).run Tryz.prog W = .ok (.agg #[.string d.n, .int .i64 d.t, .int .i64 d.z, .bool d.u]) W := fun W => by kernel_rfl
  refine wp_loop_rounds 3 ?_
  rw [rounds_succ]
  go_wp2_with (go_at_call 71; refine (Of_any _ _ _).mono ?_; rintro e w' ⟨rfl, rfl⟩)
  refine (HF.out c _ n1 (HB1.out.alloc HB1.out.size _)).mono ?_
  rintro e w2 ⟨rfl, hb2⟩
  rw [HM1.out]
  have hb2' := (Below.refl W1.heap.size W1).alloc (Nat.le_refl _) (.cells #[.string c.n, .int .i64 c.t, .int .i64 c.z, .bool c.u] 24) |>.trans (hb2.mono (by simp))
  have HB2 := Lib.hid (HB1.out.trans (hb2'.mono HB1.out.size))

  replace fr0 := keep_frozen hb2' (World.block_lt_of_cell? _ _ r0) fr0
  replace fr1 := keep_frozen hb2' (World.block_lt_of_cell? _ _ r1) fr1
  replace fr2 := keep_frozen hb2' (World.block_lt_of_cell? _ _ r2) fr2
  replace fr3 := keep_frozen hb2' (World.block_lt_of_cell? _ _ r3) fr3
  replace fr4 := keep_frozen hb2' (World.block_lt_of_cell? _ _ r4) fr4
  replace fr5 := keep_frozen hb2' (World.block_lt_of_cell? _ _ r5) fr5
  replace fr6 := keep_frozen hb2' (World.block_lt_of_cell? _ _ r6) fr6
  replace fr7 := keep_frozen hb2' (World.block_lt_of_cell? _ _ r7) fr7
  replace fr8 := keep_frozen hb2' (World.block_lt_of_cell? _ _ r8) fr8
  replace fr9 := keep_frozen hb2' (World.block_lt_of_cell? _ _ r9) fr9
  replace fr10 := keep_frozen hb2' (World.block_lt_of_cell? _ _ r10) fr10
  replace a0 := keep_cell hb2' a0
  replace a1 := keep_cell hb2' a1
  replace a2 := keep_cell hb2' a2
  replace a3 := keep_cell hb2' a3
  replace b0 := keep_cell hb2' b0
  replace b1 := keep_cell hb2' b1
  replace b2 := keep_cell hb2' b2
  replace b3 := keep_cell hb2' b3
  replace r0 := keep_cell hb2' r0
  replace r1 := keep_cell hb2' r1
  replace r2 := keep_cell hb2' r2
  replace r3 := keep_cell hb2' r3
  replace r4 := keep_cell hb2' r4
  replace r5 := keep_cell hb2' r5
  replace r6 := keep_cell hb2' r6
  replace r7 := keep_cell hb2' r7
  replace r8 := keep_cell hb2' r8
  replace r9 := keep_cell hb2' r9
  replace r10 := keep_cell hb2' r10
  clear hb2 hb2'
  go_wp2_with (go_at_call 71; refine (Of_any _ _ _).mono ?_; rintro e w' ⟨rfl, rfl⟩)
  rw [rounds_succ]
  go_wp2_with (go_at_call 71; refine (Of_any _ _ _).mono ?_; rintro e w' ⟨rfl, rfl⟩)
  refine (HF.out d _ n2 (HB2.out.alloc HB2.out.size _)).mono ?_
  rintro e w3 ⟨rfl, hb3⟩
  rw [HM2.out]
  have hb3' := (Below.refl w2.heap.size w2).alloc (Nat.le_refl _) (.cells #[.string d.n, .int .i64 d.t, .int .i64 d.z, .bool d.u] 24) |>.trans (hb3.mono (by simp))
  have HB3 := Lib.hid (HB2.out.trans (hb3'.mono HB2.out.size))

  replace fr0 := keep_frozen hb3' (World.block_lt_of_cell? _ _ r0) fr0
  replace fr1 := keep_frozen hb3' (World.block_lt_of_cell? _ _ r1) fr1
  replace fr2 := keep_frozen hb3' (World.block_lt_of_cell? _ _ r2) fr2
  replace fr3 := keep_frozen hb3' (World.block_lt_of_cell? _ _ r3) fr3
  replace fr4 := keep_frozen hb3' (World.block_lt_of_cell? _ _ r4) fr4
  replace fr5 := keep_frozen hb3' (World.block_lt_of_cell? _ _ r5) fr5
  replace fr6 := keep_frozen hb3' (World.block_lt_of_cell? _ _ r6) fr6
  replace fr7 := keep_frozen hb3' (World.block_lt_of_cell? _ _ r7) fr7
  replace fr8 := keep_frozen hb3' (World.block_lt_of_cell? _ _ r8) fr8
  replace fr9 := keep_frozen hb3' (World.block_lt_of_cell? _ _ r9) fr9
  replace fr10 := keep_frozen hb3' (World.block_lt_of_cell? _ _ r10) fr10
  replace a0 := keep_cell hb3' a0
  replace a1 := keep_cell hb3' a1
  replace a2 := keep_cell hb3' a2
  replace a3 := keep_cell hb3' a3
  replace b0 := keep_cell hb3' b0
  replace b1 := keep_cell hb3' b1
  replace b2 := keep_cell hb3' b2
  replace b3 := keep_cell hb3' b3
  replace r0 := keep_cell hb3' r0
  replace r1 := keep_cell hb3' r1
  replace r2 := keep_cell hb3' r2
  replace r3 := keep_cell hb3' r3
  replace r4 := keep_cell hb3' r4
  replace r5 := keep_cell hb3' r5
  replace r6 := keep_cell hb3' r6
  replace r7 := keep_cell hb3' r7
  replace r8 := keep_cell hb3' r8
  replace r9 := keep_cell hb3' r9
  replace r10 := keep_cell hb3' r10
  clear hb3 hb3'
  have hz2 : w.heap.size + 1 + 1 < w3.heap.size := World.block_lt_of_cell? _ _ r0
  have hz1 : w.heap.size + 1 < w3.heap.size := by omega
  have hz0 : w.heap.size < w3.heap.size := by omega
  have hbld : ∀ W, (Instr.build 80 #[(0, .agg #[.string d.n, .int .i64 d.t, .int .i64 d.z, .bool d.u]), (1, .agg #[.string c.n, .int .i64 c.t, .int .i64 c.z, .bool c.u]), (2, .agg #[.nilFunc, .nilFunc]), (3, .bool false)]).run Tryz.prog W = .ok (.agg #[.string d.n, .int .i64 d.t, .int .i64 d.z, .bool d.u, .string c.n, .int .i64 c.t, .int .i64 c.z, .bool c.u, .nilFunc, .nilFunc, .bool false]) W := fun W => by kernel_rfl
  have hLW := HLL.out w3 (by rw [HB3.out.block r (Array.getElem?_eq_some_iff.1 HM.out).1]; exact HM.out)
  go_wp2_with (go_at_call 71; refine (Of_any _ _ _).mono ?_; rintro e w' ⟨rfl, rfl⟩)
  rw [rounds_succ]
  go_upto_region 8 with fail
  obtain ⟨W5, hW5⟩ : ∃ W5, w3.alloc (.cells #[.nilFunc, .nilFunc] 78) = W5 := ⟨_, rfl⟩
  have hb5 : Below w3.heap.size w3 W5 := by rw [← hW5]; exact (Below.refl _ _).alloc (Nat.le_refl _) _
  have q0 : W5.cell? ⟨w3.heap.size, 0, none⟩ = some (.nilFunc) := by rw [← hW5]; simp [go_sem]
  have q1 : W5.cell? ⟨w3.heap.size, 1, none⟩ = some (.nilFunc) := by rw [← hW5]; simp [go_sem]

  replace fr0 := keep_frozen hb5 (World.block_lt_of_cell? _ _ r0) fr0
  replace fr1 := keep_frozen hb5 (World.block_lt_of_cell? _ _ r1) fr1
  replace fr2 := keep_frozen hb5 (World.block_lt_of_cell? _ _ r2) fr2
  replace fr3 := keep_frozen hb5 (World.block_lt_of_cell? _ _ r3) fr3
  replace fr4 := keep_frozen hb5 (World.block_lt_of_cell? _ _ r4) fr4
  replace fr5 := keep_frozen hb5 (World.block_lt_of_cell? _ _ r5) fr5
  replace fr6 := keep_frozen hb5 (World.block_lt_of_cell? _ _ r6) fr6
  replace fr7 := keep_frozen hb5 (World.block_lt_of_cell? _ _ r7) fr7
  replace fr8 := keep_frozen hb5 (World.block_lt_of_cell? _ _ r8) fr8
  replace fr9 := keep_frozen hb5 (World.block_lt_of_cell? _ _ r9) fr9
  replace fr10 := keep_frozen hb5 (World.block_lt_of_cell? _ _ r10) fr10
  replace a0 := keep_cell hb5 a0
  replace a1 := keep_cell hb5 a1
  replace a2 := keep_cell hb5 a2
  replace a3 := keep_cell hb5 a3
  replace b0 := keep_cell hb5 b0
  replace b1 := keep_cell hb5 b1
  replace b2 := keep_cell hb5 b2
  replace b3 := keep_cell hb5 b3
  replace r0 := keep_cell hb5 r0
  replace r1 := keep_cell hb5 r1
  replace r2 := keep_cell hb5 r2
  replace r3 := keep_cell hb5 r3
  replace r4 := keep_cell hb5 r4
  replace r5 := keep_cell hb5 r5
  replace r6 := keep_cell hb5 r6
  replace r7 := keep_cell hb5 r7
  replace r8 := keep_cell hb5 r8
  replace r9 := keep_cell hb5 r9
  replace r10 := keep_cell hb5 r10
  rw [hW5]
  have HB5 := Lib.hid (HB3.out.trans (hb5.mono HB3.out.size))
  have hy : w.heap.size + 1 + 1 < W5.heap.size := World.block_lt_of_cell? _ _ r0
  clear hW5 hb5 hz0 hz1 hz2 hLW hi0 hi1 e1 e2
  go_wp2_with (go_at_call 71; refine (Of_any _ _ _).mono ?_; rintro e w' ⟨rfl, rfl⟩)
  show bodyPost _ _ _ _ _ (setAll (w.heap.size + 1 + 1) W5 0 [.string d.n, .int .i64 d.t, .int .i64 d.z, .bool d.u, .string c.n, .int .i64 c.t, .int .i64 c.z, .bool c.u, .nilFunc, .nilFunc, .bool false])
  have hk := setAll_cell (w.heap.size + 1 + 1) [.string d.n, .int .i64 d.t, .int .i64 d.z, .bool d.u, .string c.n, .int .i64 c.t, .int .i64 c.z, .bool c.u, .nilFunc, .nilFunc, .bool false] W5 0 (fun i hi => by
    have hi' : i < 11 := hi
    rw [Nat.zero_add]
    match i, hi' with

    | 0, _ => rw [r0]; rfl
    | 1, _ => rw [r1]; rfl
    | 2, _ => rw [r2]; rfl
    | 3, _ => rw [r3]; rfl
    | 4, _ => rw [r4]; rfl
    | 5, _ => rw [r5]; rfl
    | 6, _ => rw [r6]; rfl
    | 7, _ => rw [r7]; rfl
    | 8, _ => rw [r8]; rfl
    | 9, _ => rw [r9]; rfl
    | 10, _ => rw [r10]; rfl
    | n + 11, h => omega)
  have hB := setAll_below (B := w.heap.size) (w := w) (w.heap.size + 1 + 1) (by omega) [.string d.n, .int .i64 d.t, .int .i64 d.z, .bool d.u, .string c.n, .int .i64 c.t, .int .i64 c.z, .bool c.u, .nilFunc, .nilFunc, .bool false] W5 0 HB5.out
  generalize setAll (w.heap.size + 1 + 1) W5 0 [.string d.n, .int .i64 d.t, .int .i64 d.z, .bool d.u, .string c.n, .int .i64 c.t, .int .i64 c.z, .bool c.u, .nilFunc, .nilFunc, .bool false] = WF at hk hB ⊢

  have k0 : WF.cell? ⟨w.heap.size + 1 + 1, 0, none⟩ = some (.string d.n) := hk 0 (by simp)
  have k1 : WF.cell? ⟨w.heap.size + 1 + 1, 1, none⟩ = some (.int .i64 d.t) := hk 1 (by simp)
  have k2 : WF.cell? ⟨w.heap.size + 1 + 1, 2, none⟩ = some (.int .i64 d.z) := hk 2 (by simp)
  have k3 : WF.cell? ⟨w.heap.size + 1 + 1, 3, none⟩ = some (.bool d.u) := hk 3 (by simp)
  have k4 : WF.cell? ⟨w.heap.size + 1 + 1, 4, none⟩ = some (.string c.n) := hk 4 (by simp)
  have k5 : WF.cell? ⟨w.heap.size + 1 + 1, 5, none⟩ = some (.int .i64 c.t) := hk 5 (by simp)
  have k6 : WF.cell? ⟨w.heap.size + 1 + 1, 6, none⟩ = some (.int .i64 c.z) := hk 6 (by simp)
  have k7 : WF.cell? ⟨w.heap.size + 1 + 1, 7, none⟩ = some (.bool c.u) := hk 7 (by simp)
  have k8 : WF.cell? ⟨w.heap.size + 1 + 1, 8, none⟩ = some (.nilFunc) := hk 8 (by simp)
  have k9 : WF.cell? ⟨w.heap.size + 1 + 1, 9, none⟩ = some (.nilFunc) := hk 9 (by simp)
  have k10 : WF.cell? ⟨w.heap.size + 1 + 1, 10, none⟩ = some (.bool false) := hk 10 (by simp)
  clear hk
  refine bodyPost_ret (v := .tuple #[.agg #[.string d.n, .int .i64 d.t, .int .i64 d.z, .bool d.u, .string c.n, .int .i64 c.t, .int .i64 c.z, .bool c.u, .nilFunc, .nilFunc, .bool false], .nilIface]) (by simp [results, Tryz.results32, go_sem, k0, k1, k2, k3, k4, k5, k6, k7, k8, k9, k10]) rfl ⟨rfl, hB⟩
end Go.Proofs.YtmgeefhacnadcaaGreatDoor
namespace Go.Proofs.YtmgeefhacnadcaaGreatDoor
open Go.RowKit

set_option maxRecDepth 100000 in
set_option maxHeartbeats 4000000 in
theorem between_bad1 (c d : Col) (r : Nat) (w : World) (hE : Env w) (n1 : c.n.size ≤ 9223372036854775807) (h1 : colOk c = false) :
    Calls Tryz.prog 32 #[.map (some r), .agg #[.string c.n, .int .i64 c.t, .int .i64 c.z, .bool c.u], .agg #[.string d.n, .int .i64 d.t, .int .i64 d.z, .bool d.u]] w fun e w' => ∃ b, e = .returned (.tuple #[.agg #[.string ⟨#[]⟩, .int .i64 0, .int .i64 0, .bool false, .string ⟨#[]⟩, .int .i64 0, .int .i64 0, .bool false, .nilFunc, .nilFunc, .bool false], .iface 147 (.pointer (some ⟨b, 0, none⟩))]) ∧ w.heap.size ≤ b ∧ w'.cell? ⟨b, 1, none⟩ = some (.int .i64 2) ∧ Below w.heap.size w w' := by
  have HF : Hid (∀ (x : Col) W, x.n.size ≤ 9223372036854775807 → Below w.heap.size w W → Calls Tryz.prog 21 #[.agg #[.string x.n, .int .i64 x.t, .int .i64 x.z, .bool x.u], .agg #[.int .i64 0, .int .i64 0, .int .u64 0, .string ⟨#[]⟩]] W fun e w' => e = .returned (.int .i64 (fitsN x v0N)) ∧ Below W.heap.size W w') := Lib.hid (fun x W h hb => fits0_any x W (hE.keep hb) h)
  clear hE
  have HM1 := Lib.hid (show fitsN c v0N = 2 by rcases fits_zero c with ⟨h, _⟩ | ⟨_, h⟩; (· exact h); (· rw [h1] at h; cases h))
  clear h1
  have hzr : ∀ W, (zeroValue 80).run Tryz.prog W = .ok (.agg #[.string ⟨#[]⟩, .int .i64 0, .int .i64 0, .bool false, .string ⟨#[]⟩, .int .i64 0, .int .i64 0, .bool false, .nilFunc, .nilFunc, .bool false]) W := fun W => by kernel_rfl
  have hbz : ∀ W, (Instr.build 80 #[]).run Tryz.prog W = .ok (.agg #[.string ⟨#[]⟩, .int .i64 0, .int .i64 0, .bool false, .string ⟨#[]⟩, .int .i64 0, .int .i64 0, .bool false, .nilFunc, .nilFunc, .bool false]) W := fun W => by kernel_rfl
  go_enter Tryz.func32, Tryz.ntmps32
  go_wp2_with (go_at_call 71; refine (Of_any _ _ _).mono ?_; rintro e w' ⟨rfl, rfl⟩)
  obtain ⟨W1, hW1⟩ : ∃ W1, ((w.alloc (.cells #[.string c.n, .int .i64 c.t, .int .i64 c.z, .bool c.u] 24)).alloc (.cells #[.string d.n, .int .i64 d.t, .int .i64 d.z, .bool d.u] 24)).alloc (.cells #[.string ⟨#[]⟩, .int .i64 0, .int .i64 0, .bool false, .string ⟨#[]⟩, .int .i64 0, .int .i64 0, .bool false, .nilFunc, .nilFunc, .bool false] 80) = W1 := ⟨_, rfl⟩
  have hb1 : Below w.heap.size w W1 := by rw [← hW1]; exact (((Below.refl _ _).alloc (Nat.le_refl _) _).alloc (by simp) _).alloc (by simp; omega) _
  have hs1 : W1.heap.size = w.heap.size + 1 + 1 + 1 := by rw [← hW1]; simp
  have a0 : W1.cell? ⟨w.heap.size, 0, none⟩ = some (.string c.n) := by rw [← hW1]; simp [go_sem]
  have a1 : W1.cell? ⟨w.heap.size, 1, none⟩ = some (.int .i64 c.t) := by rw [← hW1]; simp [go_sem]
  have a2 : W1.cell? ⟨w.heap.size, 2, none⟩ = some (.int .i64 c.z) := by rw [← hW1]; simp [go_sem]
  have a3 : W1.cell? ⟨w.heap.size, 3, none⟩ = some (.bool c.u) := by rw [← hW1]; simp [go_sem]
  have b0 : W1.cell? ⟨w.heap.size + 1, 0, none⟩ = some (.string d.n) := by rw [← hW1]; simp [go_sem]
  have b1 : W1.cell? ⟨w.heap.size + 1, 1, none⟩ = some (.int .i64 d.t) := by rw [← hW1]; simp [go_sem]
  have b2 : W1.cell? ⟨w.heap.size + 1, 2, none⟩ = some (.int .i64 d.z) := by rw [← hW1]; simp [go_sem]
  have b3 : W1.cell? ⟨w.heap.size + 1, 3, none⟩ = some (.bool d.u) := by rw [← hW1]; simp [go_sem]
  have r0 : W1.cell? ⟨w.heap.size + 1 + 1, 0, none⟩ = some (.string ⟨#[]⟩) := by rw [← hW1]; simp [go_sem]
  have r1 : W1.cell? ⟨w.heap.size + 1 + 1, 1, none⟩ = some (.int .i64 0) := by rw [← hW1]; simp [go_sem]
  have r2 : W1.cell? ⟨w.heap.size + 1 + 1, 2, none⟩ = some (.int .i64 0) := by rw [← hW1]; simp [go_sem]
  have r3 : W1.cell? ⟨w.heap.size + 1 + 1, 3, none⟩ = some (.bool false) := by rw [← hW1]; simp [go_sem]
  have r4 : W1.cell? ⟨w.heap.size + 1 + 1, 4, none⟩ = some (.string ⟨#[]⟩) := by rw [← hW1]; simp [go_sem]
  have r5 : W1.cell? ⟨w.heap.size + 1 + 1, 5, none⟩ = some (.int .i64 0) := by rw [← hW1]; simp [go_sem]
  have r6 : W1.cell? ⟨w.heap.size + 1 + 1, 6, none⟩ = some (.int .i64 0) := by rw [← hW1]; simp [go_sem]
  have r7 : W1.cell? ⟨w.heap.size + 1 + 1, 7, none⟩ = some (.bool false) := by rw [← hW1]; simp [go_sem]
  have r8 : W1.cell? ⟨w.heap.size + 1 + 1, 8, none⟩ = some (.nilFunc) := by rw [← hW1]; simp [go_sem]
  have r9 : W1.cell? ⟨w.heap.size + 1 + 1, 9, none⟩ = some (.nilFunc) := by rw [← hW1]; simp [go_sem]
  have r10 : W1.cell? ⟨w.heap.size + 1 + 1, 10, none⟩ = some (.bool false) := by rw [← hW1]; simp [go_sem]
  have fr0 : W1.frozen? ⟨w.heap.size + 1 + 1, 0, none⟩ = false := by rw [← hW1]; simp [go_sem]
  have fr1 : W1.frozen? ⟨w.heap.size + 1 + 1, 1, none⟩ = false := by rw [← hW1]; simp [go_sem]
  have fr2 : W1.frozen? ⟨w.heap.size + 1 + 1, 2, none⟩ = false := by rw [← hW1]; simp [go_sem]
  have fr3 : W1.frozen? ⟨w.heap.size + 1 + 1, 3, none⟩ = false := by rw [← hW1]; simp [go_sem]
  have fr4 : W1.frozen? ⟨w.heap.size + 1 + 1, 4, none⟩ = false := by rw [← hW1]; simp [go_sem]
  have fr5 : W1.frozen? ⟨w.heap.size + 1 + 1, 5, none⟩ = false := by rw [← hW1]; simp [go_sem]
  have fr6 : W1.frozen? ⟨w.heap.size + 1 + 1, 6, none⟩ = false := by rw [← hW1]; simp [go_sem]
  have fr7 : W1.frozen? ⟨w.heap.size + 1 + 1, 7, none⟩ = false := by rw [← hW1]; simp [go_sem]
  have fr8 : W1.frozen? ⟨w.heap.size + 1 + 1, 8, none⟩ = false := by rw [← hW1]; simp [go_sem]
  have fr9 : W1.frozen? ⟨w.heap.size + 1 + 1, 9, none⟩ = false := by rw [← hW1]; simp [go_sem]
  have fr10 : W1.frozen? ⟨w.heap.size + 1 + 1, 10, none⟩ = false := by rw [← hW1]; simp [go_sem]
  rw [hW1]
  have HB1 := Lib.hid hb1
  clear hW1 hb1
  have hi0 : ∀ W, (Instr.index 112 (.agg #[.string c.n, .int .i64 c.t, .int .i64 c.z, .bool c.u, .string d.n, .int .i64 d.t, .int .i64 d.z, .bool d.u]) (.int .i64 0)).run Tryz.prog W = .ok (.agg #[.string c.n, .int .i64 c.t, .int .i64 c.z, .bool c.u]) W := fun W => by kernel_rfl
  have hi1 : ∀ W, (Instr.index 112 (.agg #[.string c.n, .int .i64 c.t, .int .i64 c.z, .bool c.u, .string d.n, .int .i64 d.t, .int .i64 d.z, .bool d.u]) (.int .i64 1)).run Tryz.prog W = .ok (.agg #[.string d.n, .int .i64 d.t, .int .i64 d.z, .bool d.u]) W := fun W => by kernel_rfl
  refine wp_loop_rounds 3 ?_
  rw [rounds_succ]
  go_wp2_with (go_at_call 71; refine (Of_any _ _ _).mono ?_; rintro e w' ⟨rfl, rfl⟩)
  refine (HF.out c _ n1 (HB1.out.alloc HB1.out.size _)).mono ?_
  rintro e WB ⟨rfl, hb2⟩
  rw [HM1.out]
  have hb2' := (Below.refl W1.heap.size W1).alloc (Nat.le_refl _) (.cells #[.string c.n, .int .i64 c.t, .int .i64 c.z, .bool c.u] 24) |>.trans (hb2.mono (by simp))
  have HBB := Lib.hid (HB1.out.trans (hb2'.mono HB1.out.size))
  replace fr0 := keep_frozen hb2' (World.block_lt_of_cell? _ _ r0) fr0
  replace fr1 := keep_frozen hb2' (World.block_lt_of_cell? _ _ r1) fr1
  replace fr2 := keep_frozen hb2' (World.block_lt_of_cell? _ _ r2) fr2
  replace fr3 := keep_frozen hb2' (World.block_lt_of_cell? _ _ r3) fr3
  replace fr4 := keep_frozen hb2' (World.block_lt_of_cell? _ _ r4) fr4
  replace fr5 := keep_frozen hb2' (World.block_lt_of_cell? _ _ r5) fr5
  replace fr6 := keep_frozen hb2' (World.block_lt_of_cell? _ _ r6) fr6
  replace fr7 := keep_frozen hb2' (World.block_lt_of_cell? _ _ r7) fr7
  replace fr8 := keep_frozen hb2' (World.block_lt_of_cell? _ _ r8) fr8
  replace fr9 := keep_frozen hb2' (World.block_lt_of_cell? _ _ r9) fr9
  replace fr10 := keep_frozen hb2' (World.block_lt_of_cell? _ _ r10) fr10
  replace a0 := keep_cell hb2' a0
  replace a1 := keep_cell hb2' a1
  replace a2 := keep_cell hb2' a2
  replace a3 := keep_cell hb2' a3
  replace b0 := keep_cell hb2' b0
  replace b1 := keep_cell hb2' b1
  replace b2 := keep_cell hb2' b2
  replace b3 := keep_cell hb2' b3
  replace r0 := keep_cell hb2' r0
  replace r1 := keep_cell hb2' r1
  replace r2 := keep_cell hb2' r2
  replace r3 := keep_cell hb2' r3
  replace r4 := keep_cell hb2' r4
  replace r5 := keep_cell hb2' r5
  replace r6 := keep_cell hb2' r6
  replace r7 := keep_cell hb2' r7
  replace r8 := keep_cell hb2' r8
  replace r9 := keep_cell hb2' r9
  replace r10 := keep_cell hb2' r10
  have hy : w.heap.size + 1 + 1 < WB.heap.size := World.block_lt_of_cell? _ _ r0
  clear hb2 hb2' hi0 hi1
  go_upto_region 5 with fail
  have HG := Lib.hid (And.intro fr0 (And.intro fr1 (And.intro fr2 (And.intro fr3 (And.intro fr4 (And.intro fr5 (And.intro fr6 (And.intro fr7 (And.intro fr8 (And.intro fr9 (fr10)))))))))))
  replace fr0 := (World.frozen?_alloc_old WB (.cells #[.string ⟨#[97, 32, 99, 111, 108, 117, 109, 110, 32, 116, 104, 97, 116, 32, 109, 97, 121, 32, 110, 111, 116, 32, 98, 101]⟩, .int .i64 2] 149) ⟨w.heap.size + 1 + 1, 0, none⟩ (Nat.ne_of_lt hy)).trans fr0
  replace r0 := (World.cell?_alloc_lt WB (.cells #[.string ⟨#[97, 32, 99, 111, 108, 117, 109, 110, 32, 116, 104, 97, 116, 32, 109, 97, 121, 32, 110, 111, 116, 32, 98, 101]⟩, .int .i64 2] 149) ⟨w.heap.size + 1 + 1, 0, none⟩ hy).trans r0
  replace fr1 := (World.frozen?_alloc_old WB (.cells #[.string ⟨#[97, 32, 99, 111, 108, 117, 109, 110, 32, 116, 104, 97, 116, 32, 109, 97, 121, 32, 110, 111, 116, 32, 98, 101]⟩, .int .i64 2] 149) ⟨w.heap.size + 1 + 1, 1, none⟩ (Nat.ne_of_lt hy)).trans fr1
  replace r1 := (World.cell?_alloc_lt WB (.cells #[.string ⟨#[97, 32, 99, 111, 108, 117, 109, 110, 32, 116, 104, 97, 116, 32, 109, 97, 121, 32, 110, 111, 116, 32, 98, 101]⟩, .int .i64 2] 149) ⟨w.heap.size + 1 + 1, 1, none⟩ hy).trans r1
  replace fr2 := (World.frozen?_alloc_old WB (.cells #[.string ⟨#[97, 32, 99, 111, 108, 117, 109, 110, 32, 116, 104, 97, 116, 32, 109, 97, 121, 32, 110, 111, 116, 32, 98, 101]⟩, .int .i64 2] 149) ⟨w.heap.size + 1 + 1, 2, none⟩ (Nat.ne_of_lt hy)).trans fr2
  replace r2 := (World.cell?_alloc_lt WB (.cells #[.string ⟨#[97, 32, 99, 111, 108, 117, 109, 110, 32, 116, 104, 97, 116, 32, 109, 97, 121, 32, 110, 111, 116, 32, 98, 101]⟩, .int .i64 2] 149) ⟨w.heap.size + 1 + 1, 2, none⟩ hy).trans r2
  replace fr3 := (World.frozen?_alloc_old WB (.cells #[.string ⟨#[97, 32, 99, 111, 108, 117, 109, 110, 32, 116, 104, 97, 116, 32, 109, 97, 121, 32, 110, 111, 116, 32, 98, 101]⟩, .int .i64 2] 149) ⟨w.heap.size + 1 + 1, 3, none⟩ (Nat.ne_of_lt hy)).trans fr3
  replace r3 := (World.cell?_alloc_lt WB (.cells #[.string ⟨#[97, 32, 99, 111, 108, 117, 109, 110, 32, 116, 104, 97, 116, 32, 109, 97, 121, 32, 110, 111, 116, 32, 98, 101]⟩, .int .i64 2] 149) ⟨w.heap.size + 1 + 1, 3, none⟩ hy).trans r3
  replace fr4 := (World.frozen?_alloc_old WB (.cells #[.string ⟨#[97, 32, 99, 111, 108, 117, 109, 110, 32, 116, 104, 97, 116, 32, 109, 97, 121, 32, 110, 111, 116, 32, 98, 101]⟩, .int .i64 2] 149) ⟨w.heap.size + 1 + 1, 4, none⟩ (Nat.ne_of_lt hy)).trans fr4
  replace r4 := (World.cell?_alloc_lt WB (.cells #[.string ⟨#[97, 32, 99, 111, 108, 117, 109, 110, 32, 116, 104, 97, 116, 32, 109, 97, 121, 32, 110, 111, 116, 32, 98, 101]⟩, .int .i64 2] 149) ⟨w.heap.size + 1 + 1, 4, none⟩ hy).trans r4
  replace fr5 := (World.frozen?_alloc_old WB (.cells #[.string ⟨#[97, 32, 99, 111, 108, 117, 109, 110, 32, 116, 104, 97, 116, 32, 109, 97, 121, 32, 110, 111, 116, 32, 98, 101]⟩, .int .i64 2] 149) ⟨w.heap.size + 1 + 1, 5, none⟩ (Nat.ne_of_lt hy)).trans fr5
  replace r5 := (World.cell?_alloc_lt WB (.cells #[.string ⟨#[97, 32, 99, 111, 108, 117, 109, 110, 32, 116, 104, 97, 116, 32, 109, 97, 121, 32, 110, 111, 116, 32, 98, 101]⟩, .int .i64 2] 149) ⟨w.heap.size + 1 + 1, 5, none⟩ hy).trans r5
  replace fr6 := (World.frozen?_alloc_old WB (.cells #[.string ⟨#[97, 32, 99, 111, 108, 117, 109, 110, 32, 116, 104, 97, 116, 32, 109, 97, 121, 32, 110, 111, 116, 32, 98, 101]⟩, .int .i64 2] 149) ⟨w.heap.size + 1 + 1, 6, none⟩ (Nat.ne_of_lt hy)).trans fr6
  replace r6 := (World.cell?_alloc_lt WB (.cells #[.string ⟨#[97, 32, 99, 111, 108, 117, 109, 110, 32, 116, 104, 97, 116, 32, 109, 97, 121, 32, 110, 111, 116, 32, 98, 101]⟩, .int .i64 2] 149) ⟨w.heap.size + 1 + 1, 6, none⟩ hy).trans r6
  replace fr7 := (World.frozen?_alloc_old WB (.cells #[.string ⟨#[97, 32, 99, 111, 108, 117, 109, 110, 32, 116, 104, 97, 116, 32, 109, 97, 121, 32, 110, 111, 116, 32, 98, 101]⟩, .int .i64 2] 149) ⟨w.heap.size + 1 + 1, 7, none⟩ (Nat.ne_of_lt hy)).trans fr7
  replace r7 := (World.cell?_alloc_lt WB (.cells #[.string ⟨#[97, 32, 99, 111, 108, 117, 109, 110, 32, 116, 104, 97, 116, 32, 109, 97, 121, 32, 110, 111, 116, 32, 98, 101]⟩, .int .i64 2] 149) ⟨w.heap.size + 1 + 1, 7, none⟩ hy).trans r7
  replace fr8 := (World.frozen?_alloc_old WB (.cells #[.string ⟨#[97, 32, 99, 111, 108, 117, 109, 110, 32, 116, 104, 97, 116, 32, 109, 97, 121, 32, 110, 111, 116, 32, 98, 101]⟩, .int .i64 2] 149) ⟨w.heap.size + 1 + 1, 8, none⟩ (Nat.ne_of_lt hy)).trans fr8
  replace r8 := (World.cell?_alloc_lt WB (.cells #[.string ⟨#[97, 32, 99, 111, 108, 117, 109, 110, 32, 116, 104, 97, 116, 32, 109, 97, 121, 32, 110, 111, 116, 32, 98, 101]⟩, .int .i64 2] 149) ⟨w.heap.size + 1 + 1, 8, none⟩ hy).trans r8
  replace fr9 := (World.frozen?_alloc_old WB (.cells #[.string ⟨#[97, 32, 99, 111, 108, 117, 109, 110, 32, 116, 104, 97, 116, 32, 109, 97, 121, 32, 110, 111, 116, 32, 98, 101]⟩, .int .i64 2] 149) ⟨w.heap.size + 1 + 1, 9, none⟩ (Nat.ne_of_lt hy)).trans fr9
  replace r9 := (World.cell?_alloc_lt WB (.cells #[.string ⟨#[97, 32, 99, 111, 108, 117, 109, 110, 32, 116, 104, 97, 116, 32, 109, 97, 121, 32, 110, 111, 116, 32, 98, 101]⟩, .int .i64 2] 149) ⟨w.heap.size + 1 + 1, 9, none⟩ hy).trans r9
  replace fr10 := (World.frozen?_alloc_old WB (.cells #[.string ⟨#[97, 32, 99, 111, 108, 117, 109, 110, 32, 116, 104, 97, 116, 32, 109, 97, 121, 32, 110, 111, 116, 32, 98, 101]⟩, .int .i64 2] 149) ⟨w.heap.size + 1 + 1, 10, none⟩ (Nat.ne_of_lt hy)).trans fr10
  replace r10 := (World.cell?_alloc_lt WB (.cells #[.string ⟨#[97, 32, 99, 111, 108, 117, 109, 110, 32, 116, 104, 97, 116, 32, 109, 97, 121, 32, 110, 111, 116, 32, 98, 101]⟩, .int .i64 2] 149) ⟨w.heap.size + 1 + 1, 10, none⟩ hy).trans r10
  have km : (WB.alloc (.cells #[.string ⟨#[97, 32, 99, 111, 108, 117, 109, 110, 32, 116, 104, 97, 116, 32, 109, 97, 121, 32, 110, 111, 116, 32, 98, 101]⟩, .int .i64 2] 149)).cell? ⟨WB.heap.size, 1, none⟩ = some (.int .i64 2) := by simp [go_sem]
  have HBM := Lib.hid (HBB.out.alloc HBB.out.size (.cells #[.string ⟨#[97, 32, 99, 111, 108, 117, 109, 110, 32, 116, 104, 97, 116, 32, 109, 97, 121, 32, 110, 111, 116, 32, 98, 101]⟩, .int .i64 2] 149))
  have HR := Lib.hid (And.intro km (And.intro r0 (And.intro r1 (And.intro r2 (And.intro r3 (And.intro r4 (And.intro r5 (And.intro r6 (And.intro r7 (And.intro r8 (And.intro r9 (And.intro r10 (And.intro fr0 (And.intro fr1 (And.intro fr2 (And.intro fr3 (And.intro fr4 (And.intro fr5 (And.intro fr6 (And.intro fr7 (And.intro fr8 (And.intro fr9 (fr10)))))))))))))))))))))))
  have HY := Lib.hid hy
  clear hy a0 a1 a2 a3 b0 b1 b2 b3 km r0 r1 r2 r3 r4 r5 r6 r7 r8 r9 r10
  go_wp2_with (go_at_call 71; refine (Of_any _ _ _).mono ?_; rintro e w' ⟨rfl, rfl⟩)
  all_goals try (have h0 : (some (.string ⟨#[]⟩) : Option Value) = none := HR.out.2.1.symm.trans (by assumption); cases h0; done)
  obtain ⟨WM, hWM⟩ : ∃ WM, WB.alloc (.cells #[.string ⟨#[97, 32, 99, 111, 108, 117, 109, 110, 32, 116, 104, 97, 116, 32, 109, 97, 121, 32, 110, 111, 116, 32, 98, 101]⟩, .int .i64 2] 149) = WM := ⟨_, rfl⟩
  clear fr0 fr1 fr2 fr3 fr4 fr5 fr6 fr7 fr8 fr9 fr10
  obtain ⟨km, r0, r1, r2, r3, r4, r5, r6, r7, r8, r9, r10, fr0, fr1, fr2, fr3, fr4, fr5, fr6, fr7, fr8, fr9, fr10⟩ := HR.out
  have hbm := HBM.out
  rw [hWM] at km hbm r0 fr0 r1 fr1 r2 fr2 r3 fr3 r4 fr4 r5 fr5 r6 fr6 r7 fr7 r8 fr8 r9 fr9 r10 fr10 ⊢
  have HBN := Lib.hid hbm
  have hym : w.heap.size + 1 + 1 < WM.heap.size := World.block_lt_of_cell? _ _ r0
  clear hWM HR HBM hbm
  obtain ⟨gr0, gr1, gr2, gr3, gr4, gr5, gr6, gr7, gr8, gr9, gr10⟩ := HG.out
  go_simp
  go_wp2_with (go_at_call 71; refine (Of_any _ _ _).mono ?_; rintro e w' ⟨rfl, rfl⟩)
  show bodyPost _ _ _ _ _ (setAll (w.heap.size + 1 + 1) WM 0 [.string ⟨#[]⟩, .int .i64 0, .int .i64 0, .bool false, .string ⟨#[]⟩, .int .i64 0, .int .i64 0, .bool false, .nilFunc, .nilFunc, .bool false])
  have hk := setAll_cell (w.heap.size + 1 + 1) [.string ⟨#[]⟩, .int .i64 0, .int .i64 0, .bool false, .string ⟨#[]⟩, .int .i64 0, .int .i64 0, .bool false, .nilFunc, .nilFunc, .bool false] WM 0 (fun i hi => by
    have hi' : i < 11 := hi
    rw [Nat.zero_add]
    match i, hi' with
    | 0, _ => rw [r0]; rfl
    | 1, _ => rw [r1]; rfl
    | 2, _ => rw [r2]; rfl
    | 3, _ => rw [r3]; rfl
    | 4, _ => rw [r4]; rfl
    | 5, _ => rw [r5]; rfl
    | 6, _ => rw [r6]; rfl
    | 7, _ => rw [r7]; rfl
    | 8, _ => rw [r8]; rfl
    | 9, _ => rw [r9]; rfl
    | 10, _ => rw [r10]; rfl
    | n + 11, h => omega)
  have hf := (setAll_far (w.heap.size + 1 + 1) (a := ⟨WB.heap.size, 1, none⟩) (by have := HY.out; simp; omega) [.string ⟨#[]⟩, .int .i64 0, .int .i64 0, .bool false, .string ⟨#[]⟩, .int .i64 0, .int .i64 0, .bool false, .nilFunc, .nilFunc, .bool false] WM 0).trans km
  have hB := setAll_below (B := w.heap.size) (w := w) (w.heap.size + 1 + 1) (by omega) [.string ⟨#[]⟩, .int .i64 0, .int .i64 0, .bool false, .string ⟨#[]⟩, .int .i64 0, .int .i64 0, .bool false, .nilFunc, .nilFunc, .bool false] WM 0 HBN.out
  generalize setAll (w.heap.size + 1 + 1) WM 0 [.string ⟨#[]⟩, .int .i64 0, .int .i64 0, .bool false, .string ⟨#[]⟩, .int .i64 0, .int .i64 0, .bool false, .nilFunc, .nilFunc, .bool false] = WF at hk hB hf ⊢
  have k0 : WF.cell? ⟨w.heap.size + 1 + 1, 0, none⟩ = some (.string ⟨#[]⟩) := hk 0 (by simp)
  have k1 : WF.cell? ⟨w.heap.size + 1 + 1, 1, none⟩ = some (.int .i64 0) := hk 1 (by simp)
  have k2 : WF.cell? ⟨w.heap.size + 1 + 1, 2, none⟩ = some (.int .i64 0) := hk 2 (by simp)
  have k3 : WF.cell? ⟨w.heap.size + 1 + 1, 3, none⟩ = some (.bool false) := hk 3 (by simp)
  have k4 : WF.cell? ⟨w.heap.size + 1 + 1, 4, none⟩ = some (.string ⟨#[]⟩) := hk 4 (by simp)
  have k5 : WF.cell? ⟨w.heap.size + 1 + 1, 5, none⟩ = some (.int .i64 0) := hk 5 (by simp)
  have k6 : WF.cell? ⟨w.heap.size + 1 + 1, 6, none⟩ = some (.int .i64 0) := hk 6 (by simp)
  have k7 : WF.cell? ⟨w.heap.size + 1 + 1, 7, none⟩ = some (.bool false) := hk 7 (by simp)
  have k8 : WF.cell? ⟨w.heap.size + 1 + 1, 8, none⟩ = some (.nilFunc) := hk 8 (by simp)
  have k9 : WF.cell? ⟨w.heap.size + 1 + 1, 9, none⟩ = some (.nilFunc) := hk 9 (by simp)
  have k10 : WF.cell? ⟨w.heap.size + 1 + 1, 10, none⟩ = some (.bool false) := hk 10 (by simp)
  clear hk
  refine bodyPost_ret (v := .tuple #[.agg #[.string ⟨#[]⟩, .int .i64 0, .int .i64 0, .bool false, .string ⟨#[]⟩, .int .i64 0, .int .i64 0, .bool false, .nilFunc, .nilFunc, .bool false], .iface 147 (.pointer (some ⟨WB.heap.size, 0, none⟩))]) (by simp [results, Tryz.results32, go_sem, k0, k1, k2, k3, k4, k5, k6, k7, k8, k9, k10]) rfl ⟨WB.heap.size, rfl, HBB.out.size, hf, hB⟩
end Go.Proofs.YtmgeefhacnadcaaGreatDoor
namespace Go.Proofs.YtmgeefhacnadcaaGreatDoor
open Go.RowKit

set_option maxRecDepth 100000 in
set_option maxHeartbeats 4000000 in
theorem between_bad2 (c d : Col) (r : Nat) (w : World) (hE : Env w) (n1 : c.n.size ≤ 9223372036854775807) (n2 : d.n.size ≤ 9223372036854775807) (h1 : colOk c = true) (h2 : colOk d = false) :
    Calls Tryz.prog 32 #[.map (some r), .agg #[.string c.n, .int .i64 c.t, .int .i64 c.z, .bool c.u], .agg #[.string d.n, .int .i64 d.t, .int .i64 d.z, .bool d.u]] w fun e w' => ∃ b, e = .returned (.tuple #[.agg #[.string ⟨#[]⟩, .int .i64 0, .int .i64 0, .bool false, .string ⟨#[]⟩, .int .i64 0, .int .i64 0, .bool false, .nilFunc, .nilFunc, .bool false], .iface 147 (.pointer (some ⟨b, 0, none⟩))]) ∧ w.heap.size ≤ b ∧ w'.cell? ⟨b, 1, none⟩ = some (.int .i64 2) ∧ Below w.heap.size w w' := by
  have HF : Hid (∀ (x : Col) W, x.n.size ≤ 9223372036854775807 → Below w.heap.size w W → Calls Tryz.prog 21 #[.agg #[.string x.n, .int .i64 x.t, .int .i64 x.z, .bool x.u], .agg #[.int .i64 0, .int .i64 0, .int .u64 0, .string ⟨#[]⟩]] W fun e w' => e = .returned (.int .i64 (fitsN x v0N)) ∧ Below W.heap.size W w') := Lib.hid (fun x W h hb => fits0_any x W (hE.keep hb) h)
  clear hE
  obtain ⟨m1, hm1⟩ : ∃ m, fitsN c v0N = m := ⟨_, rfl⟩
  have e1 : (m1 == 2) = false := by rw [← hm1, beq_eq_false_iff_ne]; rcases fits_zero c with ⟨_, h⟩ | ⟨h, _⟩; (· rw [h1] at h; cases h); (· exact h)
  have HM1 := Lib.hid hm1
  have HM2 := Lib.hid (show fitsN d v0N = 2 by rcases fits_zero d with ⟨h, _⟩ | ⟨_, h⟩; (· exact h); (· rw [h2] at h; cases h))
  clear hm1 h1 h2
  have hzr : ∀ W, (zeroValue 80).run Tryz.prog W = .ok (.agg #[.string ⟨#[]⟩, .int .i64 0, .int .i64 0, .bool false, .string ⟨#[]⟩, .int .i64 0, .int .i64 0, .bool false, .nilFunc, .nilFunc, .bool false]) W := fun W => by kernel_rfl
  have hbz : ∀ W, (Instr.build 80 #[]).run Tryz.prog W = .ok (.agg #[.string ⟨#[]⟩, .int .i64 0, .int .i64 0, .bool false, .string ⟨#[]⟩, .int .i64 0, .int .i64 0, .bool false, .nilFunc, .nilFunc, .bool false]) W := fun W => by kernel_rfl
  go_enter Tryz.func32, Tryz.ntmps32
  go_wp2_with (go_at_call 71; refine (Of_any _ _ _).mono ?_; rintro e w' ⟨rfl, rfl⟩)
  obtain ⟨W1, hW1⟩ : ∃ W1, ((w.alloc (.cells #[.string c.n, .int .i64 c.t, .int .i64 c.z, .bool c.u] 24)).alloc (.cells #[.string d.n, .int .i64 d.t, .int .i64 d.z, .bool d.u] 24)).alloc (.cells #[.string ⟨#[]⟩, .int .i64 0, .int .i64 0, .bool false, .string ⟨#[]⟩, .int .i64 0, .int .i64 0, .bool false, .nilFunc, .nilFunc, .bool false] 80) = W1 := ⟨_, rfl⟩
  have hb1 : Below w.heap.size w W1 := by rw [← hW1]; exact (((Below.refl _ _).alloc (Nat.le_refl _) _).alloc (by simp) _).alloc (by simp; omega) _
  have hs1 : W1.heap.size = w.heap.size + 1 + 1 + 1 := by rw [← hW1]; simp
  have a0 : W1.cell? ⟨w.heap.size, 0, none⟩ = some (.string c.n) := by rw [← hW1]; simp [go_sem]
  have a1 : W1.cell? ⟨w.heap.size, 1, none⟩ = some (.int .i64 c.t) := by rw [← hW1]; simp [go_sem]
  have a2 : W1.cell? ⟨w.heap.size, 2, none⟩ = some (.int .i64 c.z) := by rw [← hW1]; simp [go_sem]
  have a3 : W1.cell? ⟨w.heap.size, 3, none⟩ = some (.bool c.u) := by rw [← hW1]; simp [go_sem]
  have b0 : W1.cell? ⟨w.heap.size + 1, 0, none⟩ = some (.string d.n) := by rw [← hW1]; simp [go_sem]
  have b1 : W1.cell? ⟨w.heap.size + 1, 1, none⟩ = some (.int .i64 d.t) := by rw [← hW1]; simp [go_sem]
  have b2 : W1.cell? ⟨w.heap.size + 1, 2, none⟩ = some (.int .i64 d.z) := by rw [← hW1]; simp [go_sem]
  have b3 : W1.cell? ⟨w.heap.size + 1, 3, none⟩ = some (.bool d.u) := by rw [← hW1]; simp [go_sem]
  have r0 : W1.cell? ⟨w.heap.size + 1 + 1, 0, none⟩ = some (.string ⟨#[]⟩) := by rw [← hW1]; simp [go_sem]
  have r1 : W1.cell? ⟨w.heap.size + 1 + 1, 1, none⟩ = some (.int .i64 0) := by rw [← hW1]; simp [go_sem]
  have r2 : W1.cell? ⟨w.heap.size + 1 + 1, 2, none⟩ = some (.int .i64 0) := by rw [← hW1]; simp [go_sem]
  have r3 : W1.cell? ⟨w.heap.size + 1 + 1, 3, none⟩ = some (.bool false) := by rw [← hW1]; simp [go_sem]
  have r4 : W1.cell? ⟨w.heap.size + 1 + 1, 4, none⟩ = some (.string ⟨#[]⟩) := by rw [← hW1]; simp [go_sem]
  have r5 : W1.cell? ⟨w.heap.size + 1 + 1, 5, none⟩ = some (.int .i64 0) := by rw [← hW1]; simp [go_sem]
  have r6 : W1.cell? ⟨w.heap.size + 1 + 1, 6, none⟩ = some (.int .i64 0) := by rw [← hW1]; simp [go_sem]
  have r7 : W1.cell? ⟨w.heap.size + 1 + 1, 7, none⟩ = some (.bool false) := by rw [← hW1]; simp [go_sem]
  have r8 : W1.cell? ⟨w.heap.size + 1 + 1, 8, none⟩ = some (.nilFunc) := by rw [← hW1]; simp [go_sem]
  have r9 : W1.cell? ⟨w.heap.size + 1 + 1, 9, none⟩ = some (.nilFunc) := by rw [← hW1]; simp [go_sem]
  have r10 : W1.cell? ⟨w.heap.size + 1 + 1, 10, none⟩ = some (.bool false) := by rw [← hW1]; simp [go_sem]
  have fr0 : W1.frozen? ⟨w.heap.size + 1 + 1, 0, none⟩ = false := by rw [← hW1]; simp [go_sem]
  have fr1 : W1.frozen? ⟨w.heap.size + 1 + 1, 1, none⟩ = false := by rw [← hW1]; simp [go_sem]
  have fr2 : W1.frozen? ⟨w.heap.size + 1 + 1, 2, none⟩ = false := by rw [← hW1]; simp [go_sem]
  have fr3 : W1.frozen? ⟨w.heap.size + 1 + 1, 3, none⟩ = false := by rw [← hW1]; simp [go_sem]
  have fr4 : W1.frozen? ⟨w.heap.size + 1 + 1, 4, none⟩ = false := by rw [← hW1]; simp [go_sem]
  have fr5 : W1.frozen? ⟨w.heap.size + 1 + 1, 5, none⟩ = false := by rw [← hW1]; simp [go_sem]
  have fr6 : W1.frozen? ⟨w.heap.size + 1 + 1, 6, none⟩ = false := by rw [← hW1]; simp [go_sem]
  have fr7 : W1.frozen? ⟨w.heap.size + 1 + 1, 7, none⟩ = false := by rw [← hW1]; simp [go_sem]
  have fr8 : W1.frozen? ⟨w.heap.size + 1 + 1, 8, none⟩ = false := by rw [← hW1]; simp [go_sem]
  have fr9 : W1.frozen? ⟨w.heap.size + 1 + 1, 9, none⟩ = false := by rw [← hW1]; simp [go_sem]
  have fr10 : W1.frozen? ⟨w.heap.size + 1 + 1, 10, none⟩ = false := by rw [← hW1]; simp [go_sem]
  rw [hW1]
  have HB1 := Lib.hid hb1
  clear hW1 hb1
  have hi0 : ∀ W, (Instr.index 112 (.agg #[.string c.n, .int .i64 c.t, .int .i64 c.z, .bool c.u, .string d.n, .int .i64 d.t, .int .i64 d.z, .bool d.u]) (.int .i64 0)).run Tryz.prog W = .ok (.agg #[.string c.n, .int .i64 c.t, .int .i64 c.z, .bool c.u]) W := fun W => by kernel_rfl
  have hi1 : ∀ W, (Instr.index 112 (.agg #[.string c.n, .int .i64 c.t, .int .i64 c.z, .bool c.u, .string d.n, .int .i64 d.t, .int .i64 d.z, .bool d.u]) (.int .i64 1)).run Tryz.prog W = .ok (.agg #[.string d.n, .int .i64 d.t, .int .i64 d.z, .bool d.u]) W := fun W => by kernel_rfl
  refine wp_loop_rounds 3 ?_
  rw [rounds_succ]
  go_wp2_with (go_at_call 71; refine (Of_any _ _ _).mono ?_; rintro e w' ⟨rfl, rfl⟩)
  refine (HF.out c _ n1 (HB1.out.alloc HB1.out.size _)).mono ?_
  rintro e w2 ⟨rfl, hb2⟩
  rw [HM1.out]
  have hb2' := (Below.refl W1.heap.size W1).alloc (Nat.le_refl _) (.cells #[.string c.n, .int .i64 c.t, .int .i64 c.z, .bool c.u] 24) |>.trans (hb2.mono (by simp))
  have HB2 := Lib.hid (HB1.out.trans (hb2'.mono HB1.out.size))
  replace fr0 := keep_frozen hb2' (World.block_lt_of_cell? _ _ r0) fr0
  replace fr1 := keep_frozen hb2' (World.block_lt_of_cell? _ _ r1) fr1
  replace fr2 := keep_frozen hb2' (World.block_lt_of_cell? _ _ r2) fr2
  replace fr3 := keep_frozen hb2' (World.block_lt_of_cell? _ _ r3) fr3
  replace fr4 := keep_frozen hb2' (World.block_lt_of_cell? _ _ r4) fr4
  replace fr5 := keep_frozen hb2' (World.block_lt_of_cell? _ _ r5) fr5
  replace fr6 := keep_frozen hb2' (World.block_lt_of_cell? _ _ r6) fr6
  replace fr7 := keep_frozen hb2' (World.block_lt_of_cell? _ _ r7) fr7
  replace fr8 := keep_frozen hb2' (World.block_lt_of_cell? _ _ r8) fr8
  replace fr9 := keep_frozen hb2' (World.block_lt_of_cell? _ _ r9) fr9
  replace fr10 := keep_frozen hb2' (World.block_lt_of_cell? _ _ r10) fr10
  replace a0 := keep_cell hb2' a0
  replace a1 := keep_cell hb2' a1
  replace a2 := keep_cell hb2' a2
  replace a3 := keep_cell hb2' a3
  replace b0 := keep_cell hb2' b0
  replace b1 := keep_cell hb2' b1
  replace b2 := keep_cell hb2' b2
  replace b3 := keep_cell hb2' b3
  replace r0 := keep_cell hb2' r0
  replace r1 := keep_cell hb2' r1
  replace r2 := keep_cell hb2' r2
  replace r3 := keep_cell hb2' r3
  replace r4 := keep_cell hb2' r4
  replace r5 := keep_cell hb2' r5
  replace r6 := keep_cell hb2' r6
  replace r7 := keep_cell hb2' r7
  replace r8 := keep_cell hb2' r8
  replace r9 := keep_cell hb2' r9
  replace r10 := keep_cell hb2' r10
  clear hb2 hb2'
  go_wp2_with (go_at_call 71; refine (Of_any _ _ _).mono ?_; rintro e w' ⟨rfl, rfl⟩)
  rw [rounds_succ]
  go_wp2_with (go_at_call 71; refine (Of_any _ _ _).mono ?_; rintro e w' ⟨rfl, rfl⟩)
  refine (HF.out d _ n2 (HB2.out.alloc HB2.out.size _)).mono ?_
  rintro e WB ⟨rfl, hb3⟩
  rw [HM2.out]
  have hb3' := (Below.refl w2.heap.size w2).alloc (Nat.le_refl _) (.cells #[.string d.n, .int .i64 d.t, .int .i64 d.z, .bool d.u] 24) |>.trans (hb3.mono (by simp))
  have HBB := Lib.hid (HB2.out.trans (hb3'.mono HB2.out.size))
  replace fr0 := keep_frozen hb3' (World.block_lt_of_cell? _ _ r0) fr0
  replace fr1 := keep_frozen hb3' (World.block_lt_of_cell? _ _ r1) fr1
  replace fr2 := keep_frozen hb3' (World.block_lt_of_cell? _ _ r2) fr2
  replace fr3 := keep_frozen hb3' (World.block_lt_of_cell? _ _ r3) fr3
  replace fr4 := keep_frozen hb3' (World.block_lt_of_cell? _ _ r4) fr4
  replace fr5 := keep_frozen hb3' (World.block_lt_of_cell? _ _ r5) fr5
  replace fr6 := keep_frozen hb3' (World.block_lt_of_cell? _ _ r6) fr6
  replace fr7 := keep_frozen hb3' (World.block_lt_of_cell? _ _ r7) fr7
  replace fr8 := keep_frozen hb3' (World.block_lt_of_cell? _ _ r8) fr8
  replace fr9 := keep_frozen hb3' (World.block_lt_of_cell? _ _ r9) fr9
  replace fr10 := keep_frozen hb3' (World.block_lt_of_cell? _ _ r10) fr10
  replace a0 := keep_cell hb3' a0
  replace a1 := keep_cell hb3' a1
  replace a2 := keep_cell hb3' a2
  replace a3 := keep_cell hb3' a3
  replace b0 := keep_cell hb3' b0
  replace b1 := keep_cell hb3' b1
  replace b2 := keep_cell hb3' b2
  replace b3 := keep_cell hb3' b3
  replace r0 := keep_cell hb3' r0
  replace r1 := keep_cell hb3' r1
  replace r2 := keep_cell hb3' r2
  replace r3 := keep_cell hb3' r3
  replace r4 := keep_cell hb3' r4
  replace r5 := keep_cell hb3' r5
  replace r6 := keep_cell hb3' r6
  replace r7 := keep_cell hb3' r7
  replace r8 := keep_cell hb3' r8
  replace r9 := keep_cell hb3' r9
  replace r10 := keep_cell hb3' r10
  have hy : w.heap.size + 1 + 1 < WB.heap.size := World.block_lt_of_cell? _ _ r0
  clear hb3 hb3' hi0 hi1
  go_upto_region 5 with fail
  have HG := Lib.hid (And.intro fr0 (And.intro fr1 (And.intro fr2 (And.intro fr3 (And.intro fr4 (And.intro fr5 (And.intro fr6 (And.intro fr7 (And.intro fr8 (And.intro fr9 (fr10)))))))))))
  replace fr0 := (World.frozen?_alloc_old WB (.cells #[.string ⟨#[97, 32, 99, 111, 108, 117, 109, 110, 32, 116, 104, 97, 116, 32, 109, 97, 121, 32, 110, 111, 116, 32, 98, 101]⟩, .int .i64 2] 149) ⟨w.heap.size + 1 + 1, 0, none⟩ (Nat.ne_of_lt hy)).trans fr0
  replace r0 := (World.cell?_alloc_lt WB (.cells #[.string ⟨#[97, 32, 99, 111, 108, 117, 109, 110, 32, 116, 104, 97, 116, 32, 109, 97, 121, 32, 110, 111, 116, 32, 98, 101]⟩, .int .i64 2] 149) ⟨w.heap.size + 1 + 1, 0, none⟩ hy).trans r0
  replace fr1 := (World.frozen?_alloc_old WB (.cells #[.string ⟨#[97, 32, 99, 111, 108, 117, 109, 110, 32, 116, 104, 97, 116, 32, 109, 97, 121, 32, 110, 111, 116, 32, 98, 101]⟩, .int .i64 2] 149) ⟨w.heap.size + 1 + 1, 1, none⟩ (Nat.ne_of_lt hy)).trans fr1
  replace r1 := (World.cell?_alloc_lt WB (.cells #[.string ⟨#[97, 32, 99, 111, 108, 117, 109, 110, 32, 116, 104, 97, 116, 32, 109, 97, 121, 32, 110, 111, 116, 32, 98, 101]⟩, .int .i64 2] 149) ⟨w.heap.size + 1 + 1, 1, none⟩ hy).trans r1
  replace fr2 := (World.frozen?_alloc_old WB (.cells #[.string ⟨#[97, 32, 99, 111, 108, 117, 109, 110, 32, 116, 104, 97, 116, 32, 109, 97, 121, 32, 110, 111, 116, 32, 98, 101]⟩, .int .i64 2] 149) ⟨w.heap.size + 1 + 1, 2, none⟩ (Nat.ne_of_lt hy)).trans fr2
  replace r2 := (World.cell?_alloc_lt WB (.cells #[.string ⟨#[97, 32, 99, 111, 108, 117, 109, 110, 32, 116, 104, 97, 116, 32, 109, 97, 121, 32, 110, 111, 116, 32, 98, 101]⟩, .int .i64 2] 149) ⟨w.heap.size + 1 + 1, 2, none⟩ hy).trans r2
  replace fr3 := (World.frozen?_alloc_old WB (.cells #[.string ⟨#[97, 32, 99, 111, 108, 117, 109, 110, 32, 116, 104, 97, 116, 32, 109, 97, 121, 32, 110, 111, 116, 32, 98, 101]⟩, .int .i64 2] 149) ⟨w.heap.size + 1 + 1, 3, none⟩ (Nat.ne_of_lt hy)).trans fr3
  replace r3 := (World.cell?_alloc_lt WB (.cells #[.string ⟨#[97, 32, 99, 111, 108, 117, 109, 110, 32, 116, 104, 97, 116, 32, 109, 97, 121, 32, 110, 111, 116, 32, 98, 101]⟩, .int .i64 2] 149) ⟨w.heap.size + 1 + 1, 3, none⟩ hy).trans r3
  replace fr4 := (World.frozen?_alloc_old WB (.cells #[.string ⟨#[97, 32, 99, 111, 108, 117, 109, 110, 32, 116, 104, 97, 116, 32, 109, 97, 121, 32, 110, 111, 116, 32, 98, 101]⟩, .int .i64 2] 149) ⟨w.heap.size + 1 + 1, 4, none⟩ (Nat.ne_of_lt hy)).trans fr4
  replace r4 := (World.cell?_alloc_lt WB (.cells #[.string ⟨#[97, 32, 99, 111, 108, 117, 109, 110, 32, 116, 104, 97, 116, 32, 109, 97, 121, 32, 110, 111, 116, 32, 98, 101]⟩, .int .i64 2] 149) ⟨w.heap.size + 1 + 1, 4, none⟩ hy).trans r4
  replace fr5 := (World.frozen?_alloc_old WB (.cells #[.string ⟨#[97, 32, 99, 111, 108, 117, 109, 110, 32, 116, 104, 97, 116, 32, 109, 97, 121, 32, 110, 111, 116, 32, 98, 101]⟩, .int .i64 2] 149) ⟨w.heap.size + 1 + 1, 5, none⟩ (Nat.ne_of_lt hy)).trans fr5
  replace r5 := (World.cell?_alloc_lt WB (.cells #[.string ⟨#[97, 32, 99, 111, 108, 117, 109, 110, 32, 116, 104, 97, 116, 32, 109, 97, 121, 32, 110, 111, 116, 32, 98, 101]⟩, .int .i64 2] 149) ⟨w.heap.size + 1 + 1, 5, none⟩ hy).trans r5
  replace fr6 := (World.frozen?_alloc_old WB (.cells #[.string ⟨#[97, 32, 99, 111, 108, 117, 109, 110, 32, 116, 104, 97, 116, 32, 109, 97, 121, 32, 110, 111, 116, 32, 98, 101]⟩, .int .i64 2] 149) ⟨w.heap.size + 1 + 1, 6, none⟩ (Nat.ne_of_lt hy)).trans fr6
  replace r6 := (World.cell?_alloc_lt WB (.cells #[.string ⟨#[97, 32, 99, 111, 108, 117, 109, 110, 32, 116, 104, 97, 116, 32, 109, 97, 121, 32, 110, 111, 116, 32, 98, 101]⟩, .int .i64 2] 149) ⟨w.heap.size + 1 + 1, 6, none⟩ hy).trans r6
  replace fr7 := (World.frozen?_alloc_old WB (.cells #[.string ⟨#[97, 32, 99, 111, 108, 117, 109, 110, 32, 116, 104, 97, 116, 32, 109, 97, 121, 32, 110, 111, 116, 32, 98, 101]⟩, .int .i64 2] 149) ⟨w.heap.size + 1 + 1, 7, none⟩ (Nat.ne_of_lt hy)).trans fr7
  replace r7 := (World.cell?_alloc_lt WB (.cells #[.string ⟨#[97, 32, 99, 111, 108, 117, 109, 110, 32, 116, 104, 97, 116, 32, 109, 97, 121, 32, 110, 111, 116, 32, 98, 101]⟩, .int .i64 2] 149) ⟨w.heap.size + 1 + 1, 7, none⟩ hy).trans r7
  replace fr8 := (World.frozen?_alloc_old WB (.cells #[.string ⟨#[97, 32, 99, 111, 108, 117, 109, 110, 32, 116, 104, 97, 116, 32, 109, 97, 121, 32, 110, 111, 116, 32, 98, 101]⟩, .int .i64 2] 149) ⟨w.heap.size + 1 + 1, 8, none⟩ (Nat.ne_of_lt hy)).trans fr8
  replace r8 := (World.cell?_alloc_lt WB (.cells #[.string ⟨#[97, 32, 99, 111, 108, 117, 109, 110, 32, 116, 104, 97, 116, 32, 109, 97, 121, 32, 110, 111, 116, 32, 98, 101]⟩, .int .i64 2] 149) ⟨w.heap.size + 1 + 1, 8, none⟩ hy).trans r8
  replace fr9 := (World.frozen?_alloc_old WB (.cells #[.string ⟨#[97, 32, 99, 111, 108, 117, 109, 110, 32, 116, 104, 97, 116, 32, 109, 97, 121, 32, 110, 111, 116, 32, 98, 101]⟩, .int .i64 2] 149) ⟨w.heap.size + 1 + 1, 9, none⟩ (Nat.ne_of_lt hy)).trans fr9
  replace r9 := (World.cell?_alloc_lt WB (.cells #[.string ⟨#[97, 32, 99, 111, 108, 117, 109, 110, 32, 116, 104, 97, 116, 32, 109, 97, 121, 32, 110, 111, 116, 32, 98, 101]⟩, .int .i64 2] 149) ⟨w.heap.size + 1 + 1, 9, none⟩ hy).trans r9
  replace fr10 := (World.frozen?_alloc_old WB (.cells #[.string ⟨#[97, 32, 99, 111, 108, 117, 109, 110, 32, 116, 104, 97, 116, 32, 109, 97, 121, 32, 110, 111, 116, 32, 98, 101]⟩, .int .i64 2] 149) ⟨w.heap.size + 1 + 1, 10, none⟩ (Nat.ne_of_lt hy)).trans fr10
  replace r10 := (World.cell?_alloc_lt WB (.cells #[.string ⟨#[97, 32, 99, 111, 108, 117, 109, 110, 32, 116, 104, 97, 116, 32, 109, 97, 121, 32, 110, 111, 116, 32, 98, 101]⟩, .int .i64 2] 149) ⟨w.heap.size + 1 + 1, 10, none⟩ hy).trans r10
  have km : (WB.alloc (.cells #[.string ⟨#[97, 32, 99, 111, 108, 117, 109, 110, 32, 116, 104, 97, 116, 32, 109, 97, 121, 32, 110, 111, 116, 32, 98, 101]⟩, .int .i64 2] 149)).cell? ⟨WB.heap.size, 1, none⟩ = some (.int .i64 2) := by simp [go_sem]
  have HBM := Lib.hid (HBB.out.alloc HBB.out.size (.cells #[.string ⟨#[97, 32, 99, 111, 108, 117, 109, 110, 32, 116, 104, 97, 116, 32, 109, 97, 121, 32, 110, 111, 116, 32, 98, 101]⟩, .int .i64 2] 149))
  have HR := Lib.hid (And.intro km (And.intro r0 (And.intro r1 (And.intro r2 (And.intro r3 (And.intro r4 (And.intro r5 (And.intro r6 (And.intro r7 (And.intro r8 (And.intro r9 (And.intro r10 (And.intro fr0 (And.intro fr1 (And.intro fr2 (And.intro fr3 (And.intro fr4 (And.intro fr5 (And.intro fr6 (And.intro fr7 (And.intro fr8 (And.intro fr9 (fr10)))))))))))))))))))))))
  have HY := Lib.hid hy
  clear hy a0 a1 a2 a3 b0 b1 b2 b3 km r0 r1 r2 r3 r4 r5 r6 r7 r8 r9 r10
  go_wp2_with (go_at_call 71; refine (Of_any _ _ _).mono ?_; rintro e w' ⟨rfl, rfl⟩)
  all_goals try (have h0 : (some (.string ⟨#[]⟩) : Option Value) = none := HR.out.2.1.symm.trans (by assumption); cases h0; done)
  obtain ⟨WM, hWM⟩ : ∃ WM, WB.alloc (.cells #[.string ⟨#[97, 32, 99, 111, 108, 117, 109, 110, 32, 116, 104, 97, 116, 32, 109, 97, 121, 32, 110, 111, 116, 32, 98, 101]⟩, .int .i64 2] 149) = WM := ⟨_, rfl⟩
  clear fr0 fr1 fr2 fr3 fr4 fr5 fr6 fr7 fr8 fr9 fr10
  obtain ⟨km, r0, r1, r2, r3, r4, r5, r6, r7, r8, r9, r10, fr0, fr1, fr2, fr3, fr4, fr5, fr6, fr7, fr8, fr9, fr10⟩ := HR.out
  have hbm := HBM.out
  rw [hWM] at km hbm r0 fr0 r1 fr1 r2 fr2 r3 fr3 r4 fr4 r5 fr5 r6 fr6 r7 fr7 r8 fr8 r9 fr9 r10 fr10 ⊢
  have HBN := Lib.hid hbm
  have hym : w.heap.size + 1 + 1 < WM.heap.size := World.block_lt_of_cell? _ _ r0
  clear hWM HR HBM hbm
  obtain ⟨gr0, gr1, gr2, gr3, gr4, gr5, gr6, gr7, gr8, gr9, gr10⟩ := HG.out
  go_simp
  go_wp2_with (go_at_call 71; refine (Of_any _ _ _).mono ?_; rintro e w' ⟨rfl, rfl⟩)
  show bodyPost _ _ _ _ _ (setAll (w.heap.size + 1 + 1) WM 0 [.string ⟨#[]⟩, .int .i64 0, .int .i64 0, .bool false, .string ⟨#[]⟩, .int .i64 0, .int .i64 0, .bool false, .nilFunc, .nilFunc, .bool false])
  have hk := setAll_cell (w.heap.size + 1 + 1) [.string ⟨#[]⟩, .int .i64 0, .int .i64 0, .bool false, .string ⟨#[]⟩, .int .i64 0, .int .i64 0, .bool false, .nilFunc, .nilFunc, .bool false] WM 0 (fun i hi => by
    have hi' : i < 11 := hi
    rw [Nat.zero_add]
    match i, hi' with
    | 0, _ => rw [r0]; rfl
    | 1, _ => rw [r1]; rfl
    | 2, _ => rw [r2]; rfl
    | 3, _ => rw [r3]; rfl
    | 4, _ => rw [r4]; rfl
    | 5, _ => rw [r5]; rfl
    | 6, _ => rw [r6]; rfl
    | 7, _ => rw [r7]; rfl
    | 8, _ => rw [r8]; rfl
    | 9, _ => rw [r9]; rfl
    | 10, _ => rw [r10]; rfl
    | n + 11, h => omega)
  have hf := (setAll_far (w.heap.size + 1 + 1) (a := ⟨WB.heap.size, 1, none⟩) (by have := HY.out; simp; omega) [.string ⟨#[]⟩, .int .i64 0, .int .i64 0, .bool false, .string ⟨#[]⟩, .int .i64 0, .int .i64 0, .bool false, .nilFunc, .nilFunc, .bool false] WM 0).trans km
  have hB := setAll_below (B := w.heap.size) (w := w) (w.heap.size + 1 + 1) (by omega) [.string ⟨#[]⟩, .int .i64 0, .int .i64 0, .bool false, .string ⟨#[]⟩, .int .i64 0, .int .i64 0, .bool false, .nilFunc, .nilFunc, .bool false] WM 0 HBN.out
  generalize setAll (w.heap.size + 1 + 1) WM 0 [.string ⟨#[]⟩, .int .i64 0, .int .i64 0, .bool false, .string ⟨#[]⟩, .int .i64 0, .int .i64 0, .bool false, .nilFunc, .nilFunc, .bool false] = WF at hk hB hf ⊢
  have k0 : WF.cell? ⟨w.heap.size + 1 + 1, 0, none⟩ = some (.string ⟨#[]⟩) := hk 0 (by simp)
  have k1 : WF.cell? ⟨w.heap.size + 1 + 1, 1, none⟩ = some (.int .i64 0) := hk 1 (by simp)
  have k2 : WF.cell? ⟨w.heap.size + 1 + 1, 2, none⟩ = some (.int .i64 0) := hk 2 (by simp)
  have k3 : WF.cell? ⟨w.heap.size + 1 + 1, 3, none⟩ = some (.bool false) := hk 3 (by simp)
  have k4 : WF.cell? ⟨w.heap.size + 1 + 1, 4, none⟩ = some (.string ⟨#[]⟩) := hk 4 (by simp)
  have k5 : WF.cell? ⟨w.heap.size + 1 + 1, 5, none⟩ = some (.int .i64 0) := hk 5 (by simp)
  have k6 : WF.cell? ⟨w.heap.size + 1 + 1, 6, none⟩ = some (.int .i64 0) := hk 6 (by simp)
  have k7 : WF.cell? ⟨w.heap.size + 1 + 1, 7, none⟩ = some (.bool false) := hk 7 (by simp)
  have k8 : WF.cell? ⟨w.heap.size + 1 + 1, 8, none⟩ = some (.nilFunc) := hk 8 (by simp)
  have k9 : WF.cell? ⟨w.heap.size + 1 + 1, 9, none⟩ = some (.nilFunc) := hk 9 (by simp)
  have k10 : WF.cell? ⟨w.heap.size + 1 + 1, 10, none⟩ = some (.bool false) := hk 10 (by simp)
  clear hk
  refine bodyPost_ret (v := .tuple #[.agg #[.string ⟨#[]⟩, .int .i64 0, .int .i64 0, .bool false, .string ⟨#[]⟩, .int .i64 0, .int .i64 0, .bool false, .nilFunc, .nilFunc, .bool false], .iface 147 (.pointer (some ⟨WB.heap.size, 0, none⟩))]) (by simp [results, Tryz.results32, go_sem, k0, k1, k2, k3, k4, k5, k6, k7, k8, k9, k10]) rfl ⟨WB.heap.size, rfl, HBB.out.size, hf, hB⟩
end Go.Proofs.YtmgeefhacnadcaaGreatDoor
