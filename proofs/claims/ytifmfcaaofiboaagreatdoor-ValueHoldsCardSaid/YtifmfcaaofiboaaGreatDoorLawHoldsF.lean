/-
  swingbridgelaw01.ValueHolds: true, for any three values.
-/
import Derived.Test.YtifmfcaaofiboaaGreatDoorLawHolds0
import Derived.Test.YtifmfcaaofiboaaGreatDoorLawHolds1
import Derived.Test.YtifmfcaaofiboaaGreatDoorLawHolds2
import Derived.Test.YtifmfcaaofiboaaGreatDoorLawHolds3
import Derived.Test.YtifmfcaaofiboaaGreatDoorLawHolds4
namespace Go.Proofs.YtifmfcaaofiboaaGreatDoor
open Go.RowKit

set_option maxRecDepth 100000 in
set_option maxHeartbeats 4000000 in
theorem holds_few (x y z : Vl) (w : World) (hf : fewB [x, y, z] 3 = false) (ht : HasTab w) (hg : HasET w) :
    Calls Tryz.prog 7 #[.agg #[.int .i64 x.k, .int .i64 x.i, .int .u64 x.u, .string x.s, .int .i64 y.k, .int .i64 y.i, .int .u64 y.u, .string y.s, .int .i64 z.k, .int .i64 z.i, .int .u64 z.u, .string z.s]] w fun e w' => e = .returned (.bool true) ∧ Below w.heap.size w w' := by
  have wk : ∀ W, Below w.heap.size w W → Calls Tryz.prog 9 #[] W fun e w' => e = .returned (.bool true) ∧ Below W.heap.size W w' := fun W hb => works_true W (ht.below hb ht.lt) (hg.below hb hg.lt)
  have WK := Lib.hid wk
  have HF := Lib.hid hf
  clear wk hf ht hg
  go_enter Tryz.func7, Tryz.ntmps7
  go_upto_region 1 with fail
  go_cut [3, 4, 5] (fun sa sb sc wx => ∃ p q r, sa = .pointer (some ⟨p, 0, none⟩) ∧ sb = .pointer (some ⟨q, 0, none⟩) ∧ sc = .pointer (some ⟨r, 0, none⟩) ∧ wx.cell? ⟨p, 0, none⟩ = some (.int .i64 x.k) ∧ wx.cell? ⟨p, 1, none⟩ = some (.int .i64 x.i) ∧ wx.cell? ⟨p, 2, none⟩ = some (.int .u64 x.u) ∧ wx.cell? ⟨p, 3, none⟩ = some (.string x.s) ∧ wx.cell? ⟨q, 0, none⟩ = some (.int .i64 y.k) ∧ wx.cell? ⟨q, 1, none⟩ = some (.int .i64 y.i) ∧ wx.cell? ⟨q, 2, none⟩ = some (.int .u64 y.u) ∧ wx.cell? ⟨q, 3, none⟩ = some (.string y.s) ∧ wx.cell? ⟨r, 0, none⟩ = some (.int .i64 z.k) ∧ wx.cell? ⟨r, 1, none⟩ = some (.int .i64 z.i) ∧ wx.cell? ⟨r, 2, none⟩ = some (.int .u64 z.u) ∧ wx.cell? ⟨r, 3, none⟩ = some (.string z.s) ∧ ThreeAt w x y z wx ∧ Below w.heap.size w wx)
  case first =>
    go_region_held3 (fun w' => w'.cell? ⟨w.heap.size, 0, none⟩ = some (.int .i64 x.k) ∧ w'.cell? ⟨w.heap.size, 1, none⟩ = some (.int .i64 x.i) ∧ w'.cell? ⟨w.heap.size, 2, none⟩ = some (.int .u64 x.u) ∧ w'.cell? ⟨w.heap.size, 3, none⟩ = some (.string x.s) ∧ w'.cell? ⟨w.heap.size, 4, none⟩ = some (.int .i64 y.k) ∧ w'.cell? ⟨w.heap.size, 5, none⟩ = some (.int .i64 y.i) ∧ w'.cell? ⟨w.heap.size, 6, none⟩ = some (.int .u64 y.u) ∧ w'.cell? ⟨w.heap.size, 7, none⟩ = some (.string y.s) ∧ w'.cell? ⟨w.heap.size, 8, none⟩ = some (.int .i64 z.k) ∧ w'.cell? ⟨w.heap.size, 9, none⟩ = some (.int .i64 z.i) ∧ w'.cell? ⟨w.heap.size, 10, none⟩ = some (.int .u64 z.u) ∧ w'.cell? ⟨w.heap.size, 11, none⟩ = some (.string z.s)) (first | (go_keep; done) | (simp [*, go_sem]; done))
      (first | fail)
    all_goals go_wp2_with fail
    all_goals go_meet
    all_goals exact ⟨_, _, _, rfl, rfl, rfl, by simp [go_sem], by simp [go_sem], by simp [go_sem], by simp [go_sem], by simp [go_sem], by simp [go_sem], by simp [go_sem], by simp [go_sem], by simp [go_sem], by simp [go_sem], by simp [go_sem], by simp [go_sem], ⟨⟨by simp [go_sem], by simp [go_sem], by simp [go_sem], by simp [go_sem]⟩, ⟨by simp [go_sem], by simp [go_sem], by simp [go_sem], by simp [go_sem]⟩, ⟨by simp [go_sem], by simp [go_sem], by simp [go_sem], by simp [go_sem]⟩⟩, by go_grown⟩
  case rest =>
    obtain ⟨p, q, r, rfl, rfl, rfl, a0, a1, a2, a3, b0, b1, b2, b3, c0, c1, c2, c3, hth, hbw⟩ := hcut
    have fw : Calls Tryz.prog 8 #[.slice (some ⟨w.heap.size, 0, none⟩) 3 3, .int .i64 3] wc fun e w' => e = .returned (.bool (fewB [x, y, z] 3)) ∧ wc = w' :=
      few_any _ [x, y, z] 3 wc (.inr ⟨_, 3, rfl, Nat.le_refl 3, fun j hj => by
        match j, hj with
        | 0, _ => exact hth.1
        | 1, _ => exact hth.2.1
        | 2, _ => exact hth.2.2⟩) (by decide) (by decide) (by simp)
    have FW := Lib.hid fw
    clear fw hth
    go_wp2_with (first | (go_at_call 8; refine FW.out.mono ?_; rintro e w' ⟨he, rfl⟩; rw [HF.out] at he; subst he) | (go_at_call 9; refine (WK.out _ hbw).mono ?_; rintro e w' ⟨rfl, hb⟩))
    go_ret
    exact ⟨rfl, hbw.trans (hb.mono hbw.size)⟩

theorem holds_true (x y z : Vl) (w : World) (wx : (Lit.int .i64 x.i).wf = true ∧ (Lit.int .u64 x.u).wf = true) (wy : (Lit.int .i64 y.i).wf = true ∧ (Lit.int .u64 y.u).wf = true) (ht : HasTab w) (hg : HasET w) :
    Calls Tryz.prog 7 #[.agg #[.int .i64 x.k, .int .i64 x.i, .int .u64 x.u, .string x.s, .int .i64 y.k, .int .i64 y.i, .int .u64 y.u, .string y.s, .int .i64 z.k, .int .i64 z.i, .int .u64 z.u, .string z.s]] w fun e w' => e = .returned (.bool true) ∧ Below w.heap.size w w' := by
  cases hf : fewB [x, y, z] 3
  · exact holds_few x y z w hf ht hg
  · rcases ord_range x y with hc | hc | hc
    · by_cases h3 : y.ord z ≤ 0
      · exact holds_0 x y z w wx wy hf hc h3 ht hg
      · exact holds_1 x y z w wx wy hf hc h3 ht hg
    · by_cases h3 : y.ord z ≤ 0
      · exact holds_2 x y z w wx wy hf hc h3 ht hg
      · exact holds_3 x y z w wx wy hf hc h3 ht hg
    · exact holds_4 x y z w wx wy hf hc ht hg
end Go.Proofs.YtifmfcaaofiboaaGreatDoor
