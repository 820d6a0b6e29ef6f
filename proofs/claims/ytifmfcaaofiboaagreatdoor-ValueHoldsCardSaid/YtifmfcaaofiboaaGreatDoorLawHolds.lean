/-
  swingbridgelaw01.ValueHolds: true.
-/
import Derived.Test.YtifmfcaaofiboaaGreatDoorWorks
import Derived.Test.YtifmfcaaofiboaaGreatDoorOrdPure
import Derived.OpenShut
namespace Go.Proofs.YtifmfcaaofiboaaGreatDoor
open Go.RowKit Go.ChangeShapes Go.WideShapes

theorem ok_of {v : Vl} (h : (Lit.int .i64 v.i).wf = true ∧ (Lit.int .u64 v.u).wf = true) (hs : v.s.size ≤ 300) : v.ok := by
  exact ⟨(bounds_i64 h.1).1, (bounds_i64 h.1).2, (bounds_u64 h.2).1, (bounds_u64 h.2).2, hs⟩
theorem fewB_ok (x y z : Vl) (wx : (Lit.int .i64 x.i).wf = true ∧ (Lit.int .u64 x.u).wf = true) (wy : (Lit.int .i64 y.i).wf = true ∧ (Lit.int .u64 y.u).wf = true) (h : fewB [x, y, z] 3 = true) : x.ok ∧ y.ok := by
  unfold fewB at h
  simp at h
  exact ⟨ok_of wx h.1, ok_of wy h.2.1⟩
theorem chk_range (k i u : Int) (s : ByteArray) : 0 ≤ chk k i u s ∧ chk k i u s ≤ 3 := by
  unfold chk
  repeat' split
  all_goals omega
/-- three values in one block -/
def ThreeAt (w : World) (x y z : Vl) (W : World) : Prop := ValAt W ⟨w.heap.size, 0, none⟩ x ∧ ValAt W ⟨w.heap.size, 4, none⟩ y ∧ ValAt W ⟨w.heap.size, 8, none⟩ z

/-- what is held while three values lie in blocks of their own -/
def Three (w : World) (p q r : Nat) (x y z : Vl) (W : World) : Prop :=
  W.cell? ⟨p, 0, none⟩ = some (.int .i64 x.k) ∧ W.cell? ⟨p, 1, none⟩ = some (.int .i64 x.i) ∧ W.cell? ⟨p, 2, none⟩ = some (.int .u64 x.u) ∧ W.cell? ⟨p, 3, none⟩ = some (.string x.s) ∧ W.cell? ⟨q, 0, none⟩ = some (.int .i64 y.k) ∧ W.cell? ⟨q, 1, none⟩ = some (.int .i64 y.i) ∧ W.cell? ⟨q, 2, none⟩ = some (.int .u64 y.u) ∧ W.cell? ⟨q, 3, none⟩ = some (.string y.s) ∧ W.cell? ⟨r, 0, none⟩ = some (.int .i64 z.k) ∧ W.cell? ⟨r, 1, none⟩ = some (.int .i64 z.i) ∧ W.cell? ⟨r, 2, none⟩ = some (.int .u64 z.u) ∧ W.cell? ⟨r, 3, none⟩ = some (.string z.s) ∧ Below w.heap.size w W
theorem Three.keep {w W W' : World} {p q r : Nat} {x y z : Vl} (h : Three w p q r x y z W) (hb : Below W.heap.size W W') : Three w p q r x y z W' := by
  obtain ⟨a0, a1, a2, a3, b0, b1, b2, b3, c0, c1, c2, c3, hw⟩ := h
  have hp : p < W.heap.size := cell_lt a0
  have hq : q < W.heap.size := cell_lt b0
  have hr : r < W.heap.size := cell_lt c0
  refine ⟨?_, ?_, ?_, ?_, ?_, ?_, ?_, ?_, ?_, ?_, ?_, ?_, hw.trans (hb.mono hw.size)⟩
  · rw [hb.cell (p := ⟨p, 0, none⟩) hp]; exact a0
  · rw [hb.cell (p := ⟨p, 1, none⟩) hp]; exact a1
  · rw [hb.cell (p := ⟨p, 2, none⟩) hp]; exact a2
  · rw [hb.cell (p := ⟨p, 3, none⟩) hp]; exact a3
  · rw [hb.cell (p := ⟨q, 0, none⟩) hq]; exact b0
  · rw [hb.cell (p := ⟨q, 1, none⟩) hq]; exact b1
  · rw [hb.cell (p := ⟨q, 2, none⟩) hq]; exact b2
  · rw [hb.cell (p := ⟨q, 3, none⟩) hq]; exact b3
  · rw [hb.cell (p := ⟨r, 0, none⟩) hr]; exact c0
  · rw [hb.cell (p := ⟨r, 1, none⟩) hr]; exact c1
  · rw [hb.cell (p := ⟨r, 2, none⟩) hr]; exact c2
  · rw [hb.cell (p := ⟨r, 3, none⟩) hr]; exact c3

theorem keep3 {w W W' : World} {p q r : Nat} {x y z : Vl} (a0 : W.cell? ⟨p, 0, none⟩ = some (.int .i64 x.k)) (a1 : W.cell? ⟨p, 1, none⟩ = some (.int .i64 x.i)) (a2 : W.cell? ⟨p, 2, none⟩ = some (.int .u64 x.u)) (a3 : W.cell? ⟨p, 3, none⟩ = some (.string x.s)) (b0 : W.cell? ⟨q, 0, none⟩ = some (.int .i64 y.k)) (b1 : W.cell? ⟨q, 1, none⟩ = some (.int .i64 y.i)) (b2 : W.cell? ⟨q, 2, none⟩ = some (.int .u64 y.u)) (b3 : W.cell? ⟨q, 3, none⟩ = some (.string y.s)) (c0 : W.cell? ⟨r, 0, none⟩ = some (.int .i64 z.k)) (c1 : W.cell? ⟨r, 1, none⟩ = some (.int .i64 z.i)) (c2 : W.cell? ⟨r, 2, none⟩ = some (.int .u64 z.u)) (c3 : W.cell? ⟨r, 3, none⟩ = some (.string z.s)) (hbw : Below w.heap.size w W) (hb : Below W.heap.size W W') :
    W'.cell? ⟨p, 0, none⟩ = some (.int .i64 x.k) ∧ W'.cell? ⟨p, 1, none⟩ = some (.int .i64 x.i) ∧ W'.cell? ⟨p, 2, none⟩ = some (.int .u64 x.u) ∧ W'.cell? ⟨p, 3, none⟩ = some (.string x.s) ∧ W'.cell? ⟨q, 0, none⟩ = some (.int .i64 y.k) ∧ W'.cell? ⟨q, 1, none⟩ = some (.int .i64 y.i) ∧ W'.cell? ⟨q, 2, none⟩ = some (.int .u64 y.u) ∧ W'.cell? ⟨q, 3, none⟩ = some (.string y.s) ∧ W'.cell? ⟨r, 0, none⟩ = some (.int .i64 z.k) ∧ W'.cell? ⟨r, 1, none⟩ = some (.int .i64 z.i) ∧ W'.cell? ⟨r, 2, none⟩ = some (.int .u64 z.u) ∧ W'.cell? ⟨r, 3, none⟩ = some (.string z.s) ∧ Below w.heap.size w W' :=
  Three.keep (w := w) (p := p) (q := q) (r := r) (x := x) (y := y) (z := z) (W := W) ⟨a0, a1, a2, a3, b0, b1, b2, b3, c0, c1, c2, c3, hbw⟩ hb
end Go.Proofs.YtifmfcaaofiboaaGreatDoor
