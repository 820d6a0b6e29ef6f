/-
  swingbridgelaw01.gone: what abides while it goes over the values of a text.
-/
import Derived.Test.YtifmfcaaofiboaaGreatDoorEachV
import Derived.Test.YtifmfcaaofiboaaGreatDoorVApp
import Derived.Test.YtifmfcaaofiboaaGreatDoorKSqs
import Derived.Lib.MinMax
namespace Go.Proofs.YtifmfcaaofiboaaGreatDoor
open Go.RowKit

/-- between two rounds: the number's box turns alone -/
structure EC (w W3 : World) (B13 : Nat) (m : Nat) (W : World) : Prop where
  size : W3.heap.size ≤ W.heap.size
  same : ∀ k, k < W3.heap.size → k ≠ B13 → W.heap[k]? = W3.heap[k]?
  below : Below w.heap.size w W
  at13 : W.cell? ⟨B13, 0, none⟩ = some (.int .i64 m)
  at13F : W.frozen? ⟨B13, 0, none⟩ = false
theorem EC.keep {w W3 A A' : World} {B13 m : Nat} (h : EC w W3 B13 m A) (hb : Below W3.heap.size A A') (h13 : B13 < W3.heap.size) (hw : w.heap.size ≤ W3.heap.size) : EC w W3 B13 m A' :=
  ⟨Nat.le_trans h.size hb.size, fun k hk hn => (hb.block k hk).trans (h.same k hk hn), h.below.trans (hb.mono hw), by rw [hb.cell h13]; exact h.at13, by rw [hb.frozen h13]; exact h.at13F⟩
theorem EC.set {w W3 W : World} {B13 m m' : Nat} (h : EC w W3 B13 m W) (hw : w.heap.size ≤ B13) : EC w W3 B13 m' (W.setCell ⟨B13, 0, none⟩ (.int .i64 m')) :=
  ⟨by simp [World.setCell]; exact h.size, fun k hk hn => (Below.heap_setCell _ _ _ _ (fun e => hn (by subst e; rfl))).trans (h.same k hk hn), h.below.setCell (p := ⟨B13, 0, none⟩) hw _, World.cell?_setCell_same' _ _ _ (by rw [h.at13]; rfl), by rw [World.frozen?_setCell]; exact h.at13F⟩
theorem EC.next {w W3 W : World} {B13 m : Nat} (h : EC w W3 B13 m W) (hw : w.heap.size ≤ B13) : EC w W3 B13 (m + 1) (W.setCell ⟨B13, 0, none⟩ (.int .i64 ((m : Int) + 1))) := by
  have := h.set (m' := m + 1) hw
  rwa [show (((m + 1 : Nat) : Int)) = (m : Int) + 1 by omega] at this
theorem EC.up {w w2 W3 W : World} {B13 m : Nat} (h : EC w W3 B13 m W) (h2 : Below w.heap.size w w2) (hb : Below w2.heap.size w2 W3) (h13 : w2.heap.size ≤ B13) : Below w2.heap.size w2 W :=
  ⟨h.below.os.trans h2.os.symm, h.below.tape.trans h2.tape.symm, h.below.output.trans h2.output.symm, Nat.le_trans hb.size h.size, fun k hk => (h.same k (Nat.lt_of_lt_of_le hk hb.size) (by omega)).trans (hb.block k hk)⟩
theorem EC.cell {w W3 W : World} {B13 m : Nat} (h : EC w W3 B13 m W) {p : Addr} (hp : p.block < W3.heap.size) (hn : p.block ≠ B13) : W.cell? p = W3.cell? p := World.cell?_of_block (h.same _ hp hn)
theorem EC.frozen {w W3 W : World} {B13 m : Nat} (h : EC w W3 B13 m W) {p : Addr} (hp : p.block < W3.heap.size) (hn : p.block ≠ B13) : W.frozen? p = W3.frozen? p := World.frozen?_of_block (h.same _ hp hn)
theorem cell_put {W : World} {a : Addr} {v : Value} {l : Nat} (h : W.cell? a = some v) {ds : Option (List Deferred)} (hl : W.heap[l]? = some (.deferred ds)) (o : Obj) : (W.putObj l o).cell? a = some v := by
  have hne : a.block ≠ l := fun e => by
    simp [World.cell?, e, hl] at h
  rw [World.cell?_of_block (World.putObj_heap_other hne)]
  exact h
theorem below_putC {B : Nat} {w W : World} (hb : Below B w W) {l : Nat} (hl : B ≤ l) (o : Obj) : Below B w (W.putObj l o) :=
  ⟨hb.os, hb.tape, hb.output, by simp; exact hb.size, fun k hk => (World.putObj_heap_other (by omega)).trans (hb.block k hk)⟩
theorem pre_at {E pre : List (Nat × Vl)} {x : Nat × Vl} (h : (pre ++ [x]) <+: E) : ∃ hl : pre.length < E.length, E[pre.length] = x := by
  obtain ⟨r, rfl⟩ := h
  refine ⟨by simp, ?_⟩
  simp
theorem pre_le {E pre : List (Nat × Vl)} (h : pre <+: E) : pre.length ≤ E.length := by
  obtain ⟨r, rfl⟩ := h
  simp
abbrev vObj (x : Vl) : Obj := .cells #[.int .i64 x.k, .int .i64 x.i, .int .u64 x.u, .string x.s] 25
theorem litV0 (W : World) (x : Vl) : ValAt (W.alloc (vObj x)) ⟨W.heap.size, 0, none⟩ x := ⟨by simp [go_sem], by simp [go_sem], by simp [go_sem], by simp [go_sem]⟩
theorem pieGo_num : ∀ (f k : Nat) (r : List UInt8) (j : Nat) (h : j < (pieGo f k r).length), (pieGo f k r)[j].1 = k + j
  | 0, _, _, _, h => by simp [pieGo] at h
  | f + 1, k, r, 0, h => by
    unfold pieGo
    rfl
  | f + 1, k, r, j + 1, h => by
    unfold pieGo at h ⊢
    simp only [List.getElem_cons_succ]
    by_cases hc : (Lib.cut r [44, 32]).2.2 = true
    · simp only [hc, if_true] at h ⊢
      rw [pieGo_num f (k + 1) _ j (by simpa using h)]
      omega
    · simp only [hc, if_false, Bool.false_eq_true] at h
      simp at h
theorem parts_num : ∀ (l : List (Nat × List UInt8)) (j : Nat) (h : j < (partsW l).length), ∃ h2 : j < l.length, (partsW l)[j].1 = l[j].1
  | [], _, h => by simp [partsW] at h
  | x :: r, j, h => by
    cases hv : valO x.2 with
    | none => simp [partsW, hv] at h
    | some v =>
      cases j with
      | zero => exact ⟨by simp, by simp [partsW, hv]⟩
      | succ j =>
        have h1 : j < (partsW r).length := by simpa [partsW, hv] using h
        obtain ⟨h2, h3⟩ := parts_num r j h1
        exact ⟨by simpa using h2, by simpa [partsW, hv] using h3⟩
theorem parts_at (r : List UInt8) (j : Nat) (h : j < (partsW (pieW 0 r)).length) : (partsW (pieW 0 r))[j].1 = j := by
  obtain ⟨h2, h3⟩ := parts_num _ j h
  rw [h3]
  have := pieGo_num _ 0 r j h2
  rw [Nat.zero_add] at this
  exact this
theorem pieGo_many : ∀ (f k : Nat) (r : List UInt8), (pieGo f k r).length ≤ f
  | 0, _, _ => by simp [pieGo]
  | f + 1, k, r => by
    unfold pieGo
    simp only [List.length_cons]
    split
    · have := pieGo_many f (k + 1) (Lib.cut r [44, 32]).2.1
      omega
    · simp
theorem parts_many : ∀ l : List (Nat × List UInt8), (partsW l).length ≤ l.length
  | [] => Nat.le_refl _
  | x :: r => by
    have := parts_many r
    unfold partsW
    split
    · simp only [List.length_cons]; omega
    · simp
/-- the row of values that the reference tells, place by place -/
theorem vals_at {w : World} {v : Value} {E : List (Nat × Vl)} (h : SliceOf w v (E.map (·.2))) : ∃ oa c, v = .slice oa E.length c ∧ ∀ (j : Nat) (hj : j < E.length), ∃ a, oa = some a ∧ ValAt w (a.add (j * 4)) (E[j]'hj).2 := by
  rcases h with ⟨rfl, hn⟩ | ⟨a, cap, rfl, hc, hv⟩
  · have h0 : E = [] := List.map_eq_nil_iff.1 hn
    subst h0
    exact ⟨none, 0, rfl, fun j hj => absurd hj (by simp)⟩
  · refine ⟨some a, cap, by rw [List.length_map], fun j hj => ⟨a, rfl, ?_⟩⟩
    have := hv j (by simpa using hj)
    simpa using this
/-- what lies in memory while it goes over them -/
structure GoS (w : World) (b5 : Nat) (many mx : Int) (oa : Option Addr) (c6 : Nat) (E : List (Nat × Vl)) (W : World) : Prop where
  many : W.cell? ⟨w.heap.size, 0, none⟩ = some (.int .i64 many)
  res : W.cell? ⟨w.heap.size + 1, 0, none⟩ = some (.bool false)
  resF : W.frozen? ⟨w.heap.size + 1, 0, none⟩ = false
  want : W.cell? ⟨b5, 0, none⟩ = some (.slice oa E.length c6)
  vals : ∀ (j : Nat) (hj : j < E.length), ∃ a, oa = some a ∧ ValAt W (a.add (j * 4)) (E[j]'hj).2
  mx : W.cell? ⟨2, 0, none⟩ = some (.int .i64 mx)
  below : Below w.heap.size w W
theorem GoS.keep {w W W' : World} {b5 : Nat} {many mx : Int} {oa : Option Addr} {c6 : Nat} {E : List (Nat × Vl)} (h : GoS w b5 many mx oa c6 E W) (hb : Below W.heap.size W W') : GoS w b5 many mx oa c6 E W' := by
  have k : ∀ {p : Addr} {v : Value}, W.cell? p = some v → W'.cell? p = some v := fun hc => (hb.cell (World.block_lt_of_cell? W _ hc)).trans hc
  exact ⟨k h.many, k h.res, (hb.frozen (World.block_lt_of_cell? W _ h.res)).trans h.resF, k h.want, fun j hj => by
    obtain ⟨a, e, q0, q1, q2, q3⟩ := h.vals j hj
    exact ⟨a, e, k q0, k q1, k q2, k q3⟩, k h.mx, h.below.trans (hb.mono h.below.size)⟩
end Go.Proofs.YtifmfcaaofiboaaGreatDoor
