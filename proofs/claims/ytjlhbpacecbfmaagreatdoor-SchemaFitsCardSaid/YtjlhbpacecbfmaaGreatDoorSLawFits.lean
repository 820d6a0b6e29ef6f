/-
  swingbridgelaw03.SchemaFits: true.
-/
import Derived.Test.YtjlhbpacecbfmaaGreatDoorSWorks
import Derived.Test.YtjlhbpacecbfmaaGreatDoorRFits
namespace Go.Proofs.YtjlhbpacecbfmaaGreatDoor
open Go.RowKit

set_option maxRecDepth 100000 in
set_option maxHeartbeats 4000000 in
theorem lawFits_true (c : Col) (v : Vl) (w : World) (hg : HasET w) (hn : c.n.size ≤ 9223372036854775807) (hs : v.s.size ≤ 9223372036854775807) :
    Calls Tryz.prog 4 #[.agg #[.string c.n, .int .i64 c.t, .int .i64 c.z, .bool c.u], .agg #[.int .i64 v.k, .int .i64 v.i, .int .u64 v.u, .string v.s]] w fun e w' => e = .returned (.bool true) ∧ Below w.heap.size w w' := by
  have HW : Hid (∀ W, Below w.heap.size w W → Calls Tryz.prog 10 #[] W fun e w' => e = .returned (.bool true) ∧ Below W.heap.size W w') := Lib.hid (fun W hb => sworks_true W (hg.below hb hg.lt))
  have HF : Hid (∀ W, Below w.heap.size w W → Calls Tryz.prog 19 #[.agg #[.string c.n, .int .i64 c.t, .int .i64 c.z, .bool c.u], .agg #[.int .i64 v.k, .int .i64 v.i, .int .u64 v.u, .string v.s]] W fun e w' => e = .returned (.int .i64 (fitsN c v)) ∧ Below W.heap.size W w') := Lib.hid (fun W hb => Fits_any c v W (hg.below hb hg.lt) hn)
  have HR : Hid (∀ W, Calls Tryz.prog 20 #[.agg #[.string c.n, .int .i64 c.t, .int .i64 c.z, .bool c.u], .agg #[.int .i64 v.k, .int .i64 v.i, .int .u64 v.u, .string v.s]] W fun e w' => e = .returned (.int .i64 (fitsN c v)) ∧ Below W.heap.size W w') := Lib.hid (fun W => rFits_any c v W hn)
  generalize fitsN c v = m at HF HR
  clear hg
  by_cases hsm : c.n.size ≤ 40 ∧ v.s.size ≤ 300
  · obtain ⟨h1, h2⟩ := hsm
    have hmm : (m == m) = true := by simp
    go_enter Tryz.func4, Tryz.ntmps4
    go_wp2_with fail
    have hbb := boxes2 w (.cells #[.string c.n, .int .i64 c.t, .int .i64 c.z, .bool c.u] 43) (.cells #[.int .i64 v.k, .int .i64 v.i, .int .u64 v.u, .string v.s] 47)
    obtain ⟨W1, hW1⟩ : ∃ W1, (w.alloc (.cells #[.string c.n, .int .i64 c.t, .int .i64 c.z, .bool c.u] 43)).alloc (.cells #[.int .i64 v.k, .int .i64 v.i, .int .u64 v.u, .string v.s] 47) = W1 := ⟨_, rfl⟩
    have l0 : ∀ p : Later W1, p.W.cell? ⟨w.heap.size, 0, none⟩ = some (.string c.n) := later_cell (by rw [← hW1]; simp [go_sem])
    have l1 : ∀ p : Later W1, p.W.cell? ⟨w.heap.size, 1, none⟩ = some (.int .i64 c.t) := later_cell (by rw [← hW1]; simp [go_sem])
    have l2 : ∀ p : Later W1, p.W.cell? ⟨w.heap.size, 2, none⟩ = some (.int .i64 c.z) := later_cell (by rw [← hW1]; simp [go_sem])
    have l3 : ∀ p : Later W1, p.W.cell? ⟨w.heap.size, 3, none⟩ = some (.bool c.u) := later_cell (by rw [← hW1]; simp [go_sem])
    have g0 : ∀ p : Later W1, p.W.cell? ⟨w.heap.size + 1, 0, none⟩ = some (.int .i64 v.k) := later_cell (by rw [← hW1]; simp [go_sem])
    have g1 : ∀ p : Later W1, p.W.cell? ⟨w.heap.size + 1, 1, none⟩ = some (.int .i64 v.i) := later_cell (by rw [← hW1]; simp [go_sem])
    have g2 : ∀ p : Later W1, p.W.cell? ⟨w.heap.size + 1, 2, none⟩ = some (.int .u64 v.u) := later_cell (by rw [← hW1]; simp [go_sem])
    have g3 : ∀ p : Later W1, p.W.cell? ⟨w.heap.size + 1, 3, none⟩ = some (.string v.s) := later_cell (by rw [← hW1]; simp [go_sem])
    rw [hW1] at hbb ⊢
    clear hW1
    have HBB := Lib.hid hbb
    clear hbb
    refine wp_region_later (by kernel_rfl) (by kernel_rfl) ?_
    repeat (go_big_quiet_step ((first | (go_at_call 19; exact Calls.later (HF.out _ (HBB.out.trans ((Later.h _).mono HBB.out.size)))) | (go_at_call 20; exact Calls.later (HR.out _)) | (go_at_call 14; exact Calls.later_same (l3num_any _ _)) | (go_at_call 10; exact Calls.later (HW.out _ (HBB.out.trans ((Later.h _).mono HBB.out.size)))))))
    refine wpQuiet_nil ?_
    rintro w3 ⟨⟨W3, hb3⟩, rfl⟩
    go_wp2_with fail
    go_ret
    exact ⟨rfl, HBB.out.trans (hb3.mono HBB.out.size)⟩
  · have hdis : 40 < c.n.size ∨ 300 < v.s.size := by omega
    clear hsm
    go_enter Tryz.func4, Tryz.ntmps4
    go_wp2_with (first | (go_at_call 10; refine (HW.out _ (boxes2 _ _ _)).mono ?_; rintro e w3 ⟨rfl, hb3⟩))
    all_goals first
      | (exfalso; omega)
      | (go_ret; exact ⟨rfl, (boxes2 w _ _).trans (hb3.mono (by simp; omega))⟩)
end Go.Proofs.YtjlhbpacecbfmaaGreatDoor
