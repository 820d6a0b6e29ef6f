/-
  swingbridgelaw06.ConvertSure: true.
-/
import Derived.Test.YtmgeefhacnadcaaGreatDoorVWorks
import Derived.Test.YtmgeefhacnadcaaGreatDoorVRs
namespace Go.Proofs.YtmgeefhacnadcaaGreatDoor
open Go.RowKit

set_option maxRecDepth 100000 in
set_option maxHeartbeats 8000000 in
theorem lawS6_true (c d : Col) (w : World) (hE : Env w) (n1 : c.n.size ≤ 9223372036854775807) (n2 : d.n.size ≤ 9223372036854775807) :
    Calls Tryz.prog 4 #[.agg #[.string c.n, .int .i64 c.t, .int .i64 c.z, .bool c.u], .agg #[.string d.n, .int .i64 d.t, .int .i64 d.z, .bool d.u]] w fun e w' => e = .returned (.bool true) ∧ Below w.heap.size w w' := by
  have HE := Lib.hid (fun W (hb : Below w.heap.size w W) => hE.keep hb)
  clear hE
  go_enter Tryz.func4, Tryz.ntmps4
  go_upto_region 1 with fail
  obtain ⟨W1, hW1⟩ : ∃ W1, ((w.alloc (.cells #[.string c.n, .int .i64 c.t, .int .i64 c.z, .bool c.u] 24)).alloc (.cells #[.string d.n, .int .i64 d.t, .int .i64 d.z, .bool d.u] 24)) = W1 := ⟨_, rfl⟩
  have hb1 : Below w.heap.size w W1 := by rw [← hW1]; exact ((Below.refl _ _).alloc (Nat.le_refl _) _).alloc (by simp) _
  have a0 : W1.cell? ⟨w.heap.size, 0, none⟩ = some (.string c.n) := by rw [← hW1]; simp [go_sem]
  have a1 : W1.cell? ⟨w.heap.size, 1, none⟩ = some (.int .i64 c.t) := by rw [← hW1]; simp [go_sem]
  have a2 : W1.cell? ⟨w.heap.size, 2, none⟩ = some (.int .i64 c.z) := by rw [← hW1]; simp [go_sem]
  have a3 : W1.cell? ⟨w.heap.size, 3, none⟩ = some (.bool c.u) := by rw [← hW1]; simp [go_sem]
  have b0 : W1.cell? ⟨w.heap.size + 1, 0, none⟩ = some (.string d.n) := by rw [← hW1]; simp [go_sem]
  have b1 : W1.cell? ⟨w.heap.size + 1, 1, none⟩ = some (.int .i64 d.t) := by rw [← hW1]; simp [go_sem]
  have b2 : W1.cell? ⟨w.heap.size + 1, 2, none⟩ = some (.int .i64 d.z) := by rw [← hW1]; simp [go_sem]
  have b3 : W1.cell? ⟨w.heap.size + 1, 3, none⟩ = some (.bool d.u) := by rw [← hW1]; simp [go_sem]
  rw [hW1]
  have HB1 := Lib.hid hb1
  clear hW1 hb1
  have HSB : Hid (∀ W, Below W1.heap.size W1 W → W.cell? ⟨w.heap.size, 0, none⟩ = some (.string c.n) ∧ W.cell? ⟨w.heap.size, 1, none⟩ = some (.int .i64 c.t) ∧ W.cell? ⟨w.heap.size, 2, none⟩ = some (.int .i64 c.z) ∧ W.cell? ⟨w.heap.size, 3, none⟩ = some (.bool c.u) ∧ W.cell? ⟨w.heap.size + 1, 0, none⟩ = some (.string d.n) ∧ W.cell? ⟨w.heap.size + 1, 1, none⟩ = some (.int .i64 d.t) ∧ W.cell? ⟨w.heap.size + 1, 2, none⟩ = some (.int .i64 d.z) ∧ W.cell? ⟨w.heap.size + 1, 3, none⟩ = some (.bool d.u)) := Lib.hid (fun W hb => ⟨keep_cell hb a0, keep_cell hb a1, keep_cell hb a2, keep_cell hb a3, keep_cell hb b0, keep_cell hb b1, keep_cell hb b2, keep_cell hb b3⟩)
  have HSH : Hid (∀ (x : Col) W, Below W1.heap.size W1 W → Calls Tryz.prog 8 #[.agg #[.string x.n, .int .i64 x.t, .int .i64 x.z, .bool x.u]] W fun e w' => e = .returned (.bool (decide ((x.n.size : Int) ≤ 40))) ∧ Below W1.heap.size W1 w') := Lib.hid (fun x W hb => (l6short_any x W).mono fun _ _ h => ⟨h.1, hb.trans (h.2.mono hb.size)⟩)
  have HWK : Hid (∀ W, Below W1.heap.size W1 W → Calls Tryz.prog 9 #[] W fun e w' => e = .returned (.bool true) ∧ Below W1.heap.size W1 w') := Lib.hid (fun W hb => (l6works_true W (HE.out W (HB1.out.trans (hb.mono HB1.out.size)))).mono fun _ _ h => ⟨h.1, hb.trans (h.2.mono hb.size)⟩)
  have HWR : Hid (∀ W, Below W1.heap.size W1 W → Calls Tryz.prog 9 #[] W fun e w' => e = .returned (.bool true) ∧ Below W.heap.size W w') := Lib.hid (fun W hb => l6works_true W (HE.out W (HB1.out.trans (hb.mono HB1.out.size))))
  have hB := Below.refl W1.heap.size W1
  by_cases hsm : c.n.size ≤ 40 ∧ d.n.size ≤ 40
  · obtain ⟨s1, s2⟩ := hsm
    have S1 : decide ((c.n.size : Int) ≤ 40) = true := decide_eq_true (by omega)
    have S2 : decide ((d.n.size : Int) ≤ 40) = true := decide_eq_true (by omega)
    have HSU : Hid (∀ W, Below W1.heap.size W1 W → Calls Tryz.prog 13 #[.agg #[.string c.n, .int .i64 c.t, .int .i64 c.z, .bool c.u], .agg #[.string d.n, .int .i64 d.t, .int .i64 d.z, .bool d.u]] W fun e w' => e = .returned (.tuple #[.bool (sureO c d).2, .int .i64 (sureO c d).1]) ∧ Below W1.heap.size W1 w') := Lib.hid (fun W hb => (Sure_any c d W (HE.out W (HB1.out.trans (hb.mono HB1.out.size))) n1 n2).mono fun _ _ h => ⟨h.1, hb.trans (h.2.mono hb.size)⟩)
    have HRS : Hid (∀ W, Below W1.heap.size W1 W → Calls Tryz.prog 14 #[.agg #[.string c.n, .int .i64 c.t, .int .i64 c.z, .bool c.u], .agg #[.string d.n, .int .i64 d.t, .int .i64 d.z, .bool d.u]] W fun e w' => e = .returned (.tuple #[.bool (sureO c d).2, .int .i64 (sureO c d).1]) ∧ Below W1.heap.size W1 w') := Lib.hid (fun W hb => (r6Sure_any c d W n1 n2).mono fun _ _ h => ⟨h.1, hb.trans (h.2.mono hb.size)⟩)
    have HXW : Hid (∀ W, Below W1.heap.size W1 W → Calls Tryz.prog 15 #[.int .i64 c.t, .int .i64 d.t] W fun e w' => e = .returned (.bool (wayR c.t d.t)) ∧ Below W.heap.size W w') := Lib.hid (fun W hb => xWay_any c.t d.t W)
    have HRW : Hid (∀ W, Calls Tryz.prog 16 #[.int .i64 c.t, .int .i64 d.t] W fun e w' => e = .returned (.bool (wayR c.t d.t)) ∧ W = w') := Lib.hid (fun W => r6Way_any c.t d.t W)
    generalize sureO c d = su at HSU HRS
    generalize wayR c.t d.t = wy at HXW HRW
    obtain ⟨se, ss⟩ := su
    dsimp only at HSU HRS
    have hse : (se == se) = true := by simp
    go_upto_region 5 with (first | (go_at_call 8; (with_reducible refine (HSH.out _ _ hB).mono ?_); rintro e w' ⟨rfl, hB⟩; obtain ⟨a0, a1, a2, a3, b0, b1, b2, b3⟩ := HSB.out _ hB) | (go_at_call 13; (with_reducible refine (HSU.out _ hB).mono ?_); rintro e w' ⟨rfl, hB⟩; obtain ⟨a0, a1, a2, a3, b0, b1, b2, b3⟩ := HSB.out _ hB) | (go_at_call 14; (with_reducible refine (HRS.out _ hB).mono ?_); rintro e w' ⟨rfl, hB⟩; obtain ⟨a0, a1, a2, a3, b0, b1, b2, b3⟩ := HSB.out _ hB))
    replace a0 := fun p => later_cell a0 p; replace a1 := fun p => later_cell a1 p; replace a2 := fun p => later_cell a2 p; replace a3 := fun p => later_cell a3 p; replace b0 := fun p => later_cell b0 p; replace b1 := fun p => later_cell b1 p; replace b2 := fun p => later_cell b2 p; replace b3 := fun p => later_cell b3 p
    cases ss <;> cases wy
    all_goals
      refine wp_region_later (by kernel_rfl) (by kernel_rfl) ?_
      repeat (go_big_quiet_step ((first | (go_at_call 12; exact Calls.later_same (l6num_any _ _)) | (go_at_call 15; exact Calls.later (HXW.out _ (held_trans hB (Later.h _)))) | (go_at_call 16; exact Calls.later_same (HRW.out _)) | (go_at_call 9; exact Calls.later (HWR.out _ (held_trans hB (Later.h _)))))))
      refine wpQuiet_nil ?_
      rintro w3 ⟨⟨W3, hb3⟩, rfl⟩
      go_wp2_with fail
      go_ret
      exact ⟨rfl, HB1.out.trans ((held_trans hB hb3).mono HB1.out.size)⟩
  · have hdis : 40 < c.n.size ∨ 40 < d.n.size := by omega
    clear hsm
    by_cases hc : 40 < c.n.size
    · have S1 : decide ((c.n.size : Int) ≤ 40) = false := decide_eq_false (by omega)
      go_wp2_with (first | (go_at_call 8; (with_reducible refine (HSH.out _ _ hB).mono ?_); rintro e w' ⟨rfl, hB⟩; obtain ⟨a0, a1, a2, a3, b0, b1, b2, b3⟩ := HSB.out _ hB) | (go_at_call 9; (with_reducible refine (HWK.out _ hB).mono ?_); rintro e w' ⟨rfl, hB⟩; obtain ⟨a0, a1, a2, a3, b0, b1, b2, b3⟩ := HSB.out _ hB))
      go_ret
      exact ⟨rfl, HB1.out.trans (hB.mono HB1.out.size)⟩
    · have S1 : decide ((c.n.size : Int) ≤ 40) = true := decide_eq_true (by omega)
      have S2 : decide ((d.n.size : Int) ≤ 40) = false := decide_eq_false (by omega)
      go_wp2_with (first | (go_at_call 8; (with_reducible refine (HSH.out _ _ hB).mono ?_); rintro e w' ⟨rfl, hB⟩; obtain ⟨a0, a1, a2, a3, b0, b1, b2, b3⟩ := HSB.out _ hB) | (go_at_call 9; (with_reducible refine (HWK.out _ hB).mono ?_); rintro e w' ⟨rfl, hB⟩; obtain ⟨a0, a1, a2, a3, b0, b1, b2, b3⟩ := HSB.out _ hB))
      go_ret
      exact ⟨rfl, HB1.out.trans (hB.mono HB1.out.size)⟩
end Go.Proofs.YtmgeefhacnadcaaGreatDoor
