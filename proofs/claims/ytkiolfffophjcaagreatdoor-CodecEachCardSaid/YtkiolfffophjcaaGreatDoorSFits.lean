/-
  schema.Fits of any column and any value: 'fitsN'.
-/
import Derived.Test.YtkiolfffophjcaaGreatDoorSFit
namespace Go.Proofs.YtkiolfffophjcaaGreatDoor
open Go.RowKit

/-- whether a value fits a column: an error's number -/
def fitsN (c : Col) (v : Vl) : Int := if colOk c = true then fitN c v else 2

theorem boxes2 (w : World) (A B : Obj) : Below w.heap.size w ((w.alloc A).alloc B) := ((Below.refl _ _).alloc (Nat.le_refl _) _).alloc (by simp) _
theorem heap_third (w : World) (A B M : Obj) : (((w.alloc A).alloc B).alloc M).heap[w.heap.size + 1 + 1]? = some M := by
  rw [← World.size_alloc w A, ← World.size_alloc (w.alloc A) B]
  exact heap_alloc_at _ _
set_option maxRecDepth 100000 in
set_option maxHeartbeats 2000000 in
theorem Fits_any (c : Col) (v : Vl) (w : World) (hg : HasET w) (hn : c.n.size ≤ 9223372036854775807) :
    Calls Tryz.prog 24 #[.agg #[.string c.n, .int .i64 c.t, .int .i64 c.z, .bool c.u], .agg #[.int .i64 v.k, .int .i64 v.i, .int .u64 v.u, .string v.s]] w fun e w' => e = .returned (.int .i64 (fitsN c v)) ∧ Below w.heap.size w w' := by
  have HG := Lib.hid hg
  have hgl := hg.lt
  clear hg
  cases hc : colOk c
  · have HF := Lib.hid (show fitsN c v = 2 by unfold fitsN; rw [hc]; rfl)
    have HC := Lib.hid hc
    have HN := Lib.hid hn
    clear hc hn
    go_enter Tryz.func24, Tryz.ntmps24
    go_wp2_with fail
    refine (types_any _).mono ?_
    rintro e w1 ⟨rfl, rfl⟩
    go_wp2_with fail
    refine (column_bad c _ _ ?_ HN.out HC.out).mono ?_
    · exact heap_third _ _ _ _
    rintro e w2 ⟨b, rfl, hb, hcb, hb2⟩
    have hb0 : Below w.heap.size w w2 := ((boxes2 w _ _).alloc (by simp; omega) _).trans (hb2.mono (by simp; omega))
    go_wp2_with fail
    refine (sErrno_err b 2 _ (HG.out.below hb0 hgl) hcb).mono ?_
    rintro e w3 ⟨rfl, hb3⟩
    go_wp2_with fail
    go_ret
    exact ⟨by rw [HF.out]; rfl, hb0.trans (hb3.mono hb0.size)⟩
  · have HN := Lib.hid hn
    have HC := Lib.hid hc
    have HZ := Lib.hid (show szOk c.t c.z = true by unfold colOk at hc; rw [Bool.and_eq_true] at hc; exact hc.1)
    obtain ⟨m, hm⟩ : ∃ m, fitN c v = m := ⟨_, rfl⟩
    have HF := Lib.hid (show fitsN c v = m by unfold fitsN; rw [hc]; exact hm)
    have HM := Lib.hid hm
    clear hc hn hm
    by_cases h0 : m = 0
    · subst h0
      go_enter Tryz.func24, Tryz.ntmps24
      go_wp2_with fail
      refine (types_any _).mono ?_
      rintro e w1 ⟨rfl, rfl⟩
      go_wp2_with fail
      refine (column_ok c _ _ ?_ HN.out HC.out).mono ?_
      · exact heap_third _ _ _ _
      rintro e w2 ⟨rfl, hb2⟩
      have hb0 : Below w.heap.size w w2 := ((boxes2 w _ _).alloc (by simp; omega) _).trans (hb2.mono (by simp; omega))
      have hm2 := heap_keep (heap_third _ _ _ _) hb2
      have hc0 : w2.cell? ⟨w.heap.size, 0, none⟩ = some (.string c.n) := cell_old (by simp [go_sem]) hb2
      have hc1 : w2.cell? ⟨w.heap.size, 1, none⟩ = some (.int .i64 c.t) := cell_old (by simp [go_sem]) hb2
      have hc2 : w2.cell? ⟨w.heap.size, 2, none⟩ = some (.int .i64 c.z) := cell_old (by simp [go_sem]) hb2
      have hc3 : w2.cell? ⟨w.heap.size, 3, none⟩ = some (.bool c.u) := cell_old (by simp [go_sem]) hb2
      have hv0 : w2.cell? ⟨w.heap.size + 1, 0, none⟩ = some (.int .i64 v.k) := cell_old (by simp [go_sem]) hb2
      have hv1 : w2.cell? ⟨w.heap.size + 1, 1, none⟩ = some (.int .i64 v.i) := cell_old (by simp [go_sem]) hb2
      have hv2 : w2.cell? ⟨w.heap.size + 1, 2, none⟩ = some (.int .u64 v.u) := cell_old (by simp [go_sem]) hb2
      have hv3 : w2.cell? ⟨w.heap.size + 1, 3, none⟩ = some (.string v.s) := cell_old (by simp [go_sem]) hb2
      have HC2 := Lib.hid (fit_ok c v _ w2 hm2 (HG.out.below hb0 hgl) HZ.out HM.out)
      clear hm2
      go_wp2_with (first | (refine HC2.out.mono ?_; rintro e w3 ⟨rfl, hb3⟩) | (go_at_call 52; refine (sErrno_nil _).mono ?_; rintro e w4 ⟨rfl, hb4⟩))
      go_ret
      exact ⟨by rw [HF.out]; rfl, (hb0.trans (hb3.mono hb0.size)).trans (hb4.mono (hb0.trans (hb3.mono hb0.size)).size)⟩
    · have H0 := Lib.hid h0
      clear h0
      go_enter Tryz.func24, Tryz.ntmps24
      go_wp2_with fail
      refine (types_any _).mono ?_
      rintro e w1 ⟨rfl, rfl⟩
      go_wp2_with fail
      refine (column_ok c _ _ ?_ HN.out HC.out).mono ?_
      · exact heap_third _ _ _ _
      rintro e w2 ⟨rfl, hb2⟩
      have hb0 : Below w.heap.size w w2 := ((boxes2 w _ _).alloc (by simp; omega) _).trans (hb2.mono (by simp; omega))
      have hm2 := heap_keep (heap_third _ _ _ _) hb2
      have hc0 : w2.cell? ⟨w.heap.size, 0, none⟩ = some (.string c.n) := cell_old (by simp [go_sem]) hb2
      have hc1 : w2.cell? ⟨w.heap.size, 1, none⟩ = some (.int .i64 c.t) := cell_old (by simp [go_sem]) hb2
      have hc2 : w2.cell? ⟨w.heap.size, 2, none⟩ = some (.int .i64 c.z) := cell_old (by simp [go_sem]) hb2
      have hc3 : w2.cell? ⟨w.heap.size, 3, none⟩ = some (.bool c.u) := cell_old (by simp [go_sem]) hb2
      have hv0 : w2.cell? ⟨w.heap.size + 1, 0, none⟩ = some (.int .i64 v.k) := cell_old (by simp [go_sem]) hb2
      have hv1 : w2.cell? ⟨w.heap.size + 1, 1, none⟩ = some (.int .i64 v.i) := cell_old (by simp [go_sem]) hb2
      have hv2 : w2.cell? ⟨w.heap.size + 1, 2, none⟩ = some (.int .u64 v.u) := cell_old (by simp [go_sem]) hb2
      have hv3 : w2.cell? ⟨w.heap.size + 1, 3, none⟩ = some (.string v.s) := cell_old (by simp [go_sem]) hb2
      have HC2 := Lib.hid (fit_bad c v _ w2 hm2 (HG.out.below hb0 hgl) HZ.out m HM.out H0.out)
      clear hm2
      go_wp2_with fail
      refine HC2.out.mono ?_
      rintro e w3 ⟨b, rfl, hb, hcb, hb3⟩
      have hb03 := hb0.trans (hb3.mono hb0.size)
      go_wp2_with fail
      refine (sErrno_err b m _ (HG.out.below hb03 hgl) hcb).mono ?_
      rintro e w4 ⟨rfl, hb4⟩
      go_wp2_with fail
      go_ret
      exact ⟨by rw [HF.out]; rfl, hb03.trans (hb4.mono hb03.size)⟩
end Go.Proofs.YtkiolfffophjcaaGreatDoor
