/-
  swingbridgelaw04.CodecEach: what abides while it goes over the rows.
-/
import Derived.Test.YtocmjlnhcloccaaGreatDoorCEachR
namespace Go.Proofs.YtocmjlnhcloccaaGreatDoor
open Go.RowKit

/-- between two rounds: the number's box turns alone -/
structure EC (w W3 : World) (B13 : Nat) (m : Nat) (W : World) : Prop where
  size : W3.heap.size ≤ W.heap.size
  same : ∀ k, k < W3.heap.size → k ≠ B13 → W.heap[k]? = W3.heap[k]?
  below : Below w.heap.size w W
  at13 : W.cell? ⟨B13, 0, none⟩ = some (.int .i64 m)
  at13F : W.frozen? ⟨B13, 0, none⟩ = false
theorem EC.keep {w W3 A A' : World} {B13 m : Nat} (h : EC w W3 B13 m A) (hb : Below W3.heap.size A A') (h13 : B13 < W3.heap.size) (hw : w.heap.size ≤ W3.heap.size) : EC w W3 B13 m A' :=
  ⟨Nat.le_trans h.size hb.size, fun k hk hn => (hb.block k hk).trans (h.same k hk hn), h.below.trans (hb.mono hw), by rw [hb.cell h13]; exact h.at13, by rw [hb.frozen h13]; exact h.at13F⟩
theorem EC.set {w W3 W : World} {B13 m m' : Nat} (h : EC w W3 B13 m W) (hw : w.heap.size ≤ B13) : EC w W3 B13 m' (W.setCell ⟨B13, 0, none⟩ (.int .i64 m')) :=
  ⟨by simp [World.setCell]; exact h.size, fun k hk hn => (Below.heap_setCell _ _ _ _ (fun e => hn (by subst e; rfl))).trans (h.same k hk hn), h.below.setCell (p := ⟨B13, 0, none⟩) hw _, World.cell?_setCell_same' _ _ _ (by rw [h.at13]; rfl), by rw [World.frozen?_setCell]; exact h.at13F⟩
theorem EC.next {w W3 W : World} {B13 m : Nat} (h : EC w W3 B13 m W) (hw : w.heap.size ≤ B13) : EC w W3 B13 (m + 1) (W.setCell ⟨B13, 0, none⟩ (.int .i64 ((m : Int) + 1))) := by
  have := h.set (m' := m + 1) hw
  rwa [show (((m + 1 : Nat) : Int)) = (m : Int) + 1 by omega] at this
theorem EC.up {w w2 W3 W : World} {B13 m : Nat} (h : EC w W3 B13 m W) (h2 : Below w.heap.size w w2) (hb : Below w2.heap.size w2 W3) (h13 : w2.heap.size ≤ B13) : Below w2.heap.size w2 W :=
  ⟨h.below.os.trans h2.os.symm, h.below.tape.trans h2.tape.symm, h.below.output.trans h2.output.symm, Nat.le_trans hb.size h.size, fun k hk => (h.same k (Nat.lt_of_lt_of_le hk hb.size) (by omega)).trans (hb.block k hk)⟩
theorem EC.cell {w W3 W : World} {B13 m : Nat} (h : EC w W3 B13 m W) {p : Addr} (hp : p.block < W3.heap.size) (hn : p.block ≠ B13) : W.cell? p = W3.cell? p := World.cell?_of_block (h.same _ hp hn)
theorem EC.frozen {w W3 W : World} {B13 m : Nat} (h : EC w W3 B13 m W) {p : Addr} (hp : p.block < W3.heap.size) (hn : p.block ≠ B13) : W.frozen? p = W3.frozen? p := World.frozen?_of_block (h.same _ hp hn)
theorem below_putC {B : Nat} {w W : World} (hb : Below B w W) {l : Nat} (hl : B ≤ l) (o : Obj) : Below B w (W.putObj l o) :=
  ⟨hb.os, hb.tape, hb.output, by simp; exact hb.size, fun k hk => (World.putObj_heap_other (by omega)).trans (hb.block k hk)⟩
theorem infoIC : (Tryz.prog.info? 3).map (fun i => (i.zero, i.size, i.bytes)) = some (some (.int .i64 0), 1, 8) := by kernel_rfl
theorem infoRC : (Tryz.prog.info? 27).map (fun i => (i.zero, i.size, i.bytes)) = some (some (.slice none 0 0), 1, 24) := by kernel_rfl
def kl5C (pre : List (Nat × List Vl)) : List Value := pre.map fun x => .int .i64 x.1
theorem kl5C_snoc (pre : List (Nat × List Vl)) (i : Nat) (v : List Vl) : kl5C (pre ++ [(i, v)]) = kl5C pre ++ [.int .i64 (i : Int)] := by simp [kl5C]
theorem cells_sch {W : World} {b : Nat} {x y z : Value} {t : TypeId} (h : W.heap[b]? = some (.cells #[x, y, z] t (0, 0))) : W.cell? ⟨b, 0, none⟩ = some x ∧ W.cell? ⟨b, 1, none⟩ = some y ∧ W.cell? ⟨b, 2, none⟩ = some z := by
  refine ⟨?_, ?_, ?_⟩ <;> simp only [World.cell?] <;> rw [h] <;> rfl
theorem row_neC {W : World} {B e n q : Nat} {v : Value} {xs : List Value} (h : W.ownsRow B e 1 v n xs) (hq : W.heap.size ≤ q) : some q ≠ v.ownBlock := fun he => by
  have := (h.lt q he.symm).2
  omega
theorem one_cellC {W : World} {q : Nat} {v : Value} (h : W.cell? ⟨q, 0, none⟩ = some v) : ∀ j u, [v][j]? = some u → W.cell? ((⟨q, 0, none⟩ : Addr).add j) = some u := by
  intro j u hj
  cases j with
  | zero =>
    simp at hj
    subst hj
    rw [show (⟨q, 0, none⟩ : Addr).add 0 = ⟨q, 0, none⟩ by unfold Addr.add; split <;> simp_all]
    exact h
  | succ j => simp at hj
theorem cell_grownC {W W' : World} {q : Nat} {v : Value} {row : Option Nat} (h : W.cell? ⟨q, 0, none⟩ = some v) (hg : W.grownBy W' row) (hne : some q ≠ row) : W'.cell? ⟨q, 0, none⟩ = some v :=
  (World.cell?_of_block (a := ⟨q, 0, none⟩) (hg.block q (World.block_lt_of_cell? W _ h) hne)).trans h
theorem SeqTurnsF.up {α : Type} {F : Fence} {n : Nat} {P : Program} {g : Nat} {lb : Array Value} {encs : α → Array Value} {G : Nat → Prop} {S Sp : List α → Prop} {Fx : α → World → Prop} {w W : World} (h : SeqTurnsF F n P g lb encs G S Sp Fx w) (hb : Below w.heap.size w W) : SeqTurnsF F n P g lb encs G S Sp Fx W :=
  fun l J Jx V hV => h l J Jx V (hb.trans (hV.mono hb.size))
theorem vals_loop {W : World} {b l : Nat} {vs : List Vl} (h : ValsIn W (some ⟨b, 0, none⟩) vs) (hl : ∃ r, W.heap[l]? = some (.loop r)) (o : Obj) : ValsIn (W.putObj l o) (some ⟨b, 0, none⟩) vs := fun j hj => by
  obtain ⟨r, hl⟩ := hl
  obtain ⟨a, e, h0, h1, h2, h3⟩ := h j hj
  have hne : (a.add (j * 4)).block ≠ l := fun e => by
    have h0' := h0
    simp [World.cell?, e, hl] at h0'
  have hk : (W.putObj l o).heap[(a.add (j * 4)).block]? = W.heap[(a.add (j * 4)).block]? := World.putObj_heap_other hne
  exact ⟨a, e, (World.cell?_of_block hk).trans h0, (World.cell?_of_block (a := ⟨(a.add (j * 4)).block, _, none⟩) hk).trans h1, (World.cell?_of_block (a := ⟨(a.add (j * 4)).block, _, none⟩) hk).trans h2, (World.cell?_of_block (a := ⟨(a.add (j * 4)).block, _, none⟩) hk).trans h3⟩
theorem slice_same {w W : World} {v : Value} {l : List Vl} (h : SliceOf w v l) (hk : ∀ k, k < w.heap.size → W.heap[k]? = w.heap[k]?) : SliceOf W v l := by
  rcases h with ⟨rfl, rfl⟩ | ⟨a, cap, rfl, hc, hv⟩
  · exact .inl ⟨rfl, rfl⟩
  · refine .inr ⟨a, cap, rfl, hc, fun j hj => ?_⟩
    obtain ⟨h0, h1, h2, h3⟩ := hv j hj
    have he := hk _ (World.block_lt_of_cell? w _ h0)
    exact ⟨(World.cell?_of_block he).trans h0, (World.cell?_of_block (a := ⟨(a.add (j * 4)).block, _, none⟩) he).trans h1, (World.cell?_of_block (a := ⟨(a.add (j * 4)).block, _, none⟩) he).trans h2, (World.cell?_of_block (a := ⟨(a.add (j * 4)).block, _, none⟩) he).trans h3⟩
theorem slice_vals {W : World} {b : Nat} {vs : List Vl} (h : ValsIn W (some ⟨b, 0, none⟩) vs) : SliceOf W (.slice (some ⟨b, 0, none⟩) vs.length vs.length) vs :=
  .inr ⟨_, _, rfl, Nat.le_refl _, fun j hj => by obtain ⟨a, e, hv⟩ := h j hj; cases e; exact hv⟩
/-- what is gathered, as cells -/
structure GoC (w : World) (N : Nat) (many : Int) (oa5 : Option Addr) (c5 : Nat) (oa6 : Option Addr) (c6 : Nat) (E : List (Nat × List Vl)) (W : World) : Prop where
  le : w.heap.size + 3 ≤ N
  lt : N + 2 ≤ W.heap.size
  many : W.cell? ⟨w.heap.size + 1, 0, none⟩ = some (.int .i64 many)
  res : W.cell? ⟨w.heap.size + 2, 0, none⟩ = some (.bool false)
  resF : W.frozen? ⟨w.heap.size + 2, 0, none⟩ = false
  at5 : W.cell? ⟨N, 0, none⟩ = some (.slice oa5 E.length c5)
  at6 : W.cell? ⟨N + 1, 0, none⟩ = some (.slice oa6 E.length c6)
  els : ∀ (j : Nat) (hj : j < E.length), ∃ a5 a6 ob nb cb, oa5 = some a5 ∧ oa6 = some a6 ∧ W.cell? (a5.add j) = some (.int .i64 (E[j]'hj).1) ∧ W.cell? (a6.add j) = some (.slice ob nb cb) ∧ SliceOf W (.slice ob nb cb) (E[j]'hj).2
  below : Below w.heap.size w W
theorem goC_of {w W : World} {N : Nat} {sc : Array Value} {many : Int} {v5 v6 : Value} {lo : List Value} {E : List (Nat × List Vl)} (h : StC w N sc many W v5 v6 v5 v6 (kl5C E) lo lo (E.map (·.2))) : ∃ oa5 c5 oa6 c6, GoC w N many oa5 c5 oa6 c6 E W := by
  have hlo : lo.length = E.length := by have := h.rws.1; simpa using this
  have h5l : (kl5C E).length = E.length := by simp [kl5C]
  have sl : ∀ {v : Value} {e n : Nat} {xs : List Value}, W.ownsRow (N + 2) e 1 v n xs → ∃ oa c, v = .slice oa n c ∧ ∀ j, j < n → ∃ a, oa = some a ∧ W.cell? (a.add j) = xs[j]? := fun hr => by
    have h0 := hr
    rcases hr.2 with ⟨rfl, hn⟩ | ⟨g, cap, cur, rfl, _⟩
    · exact ⟨none, 0, by rw [hn], fun j hj => by omega⟩
    · refine ⟨_, cap, rfl, fun j hj => ⟨_, rfl, ?_⟩⟩
      rw [cl_from]
      exact h0.cellAt j (by omega)
  obtain ⟨oa5, c5, rfl, q5⟩ := sl h.r5
  obtain ⟨oa6, c6, rfl, q6⟩ := sl h.r6
  have a5 := h.at5
  have a6 := h.at6
  rw [h5l] at a5
  rw [hlo] at a6
  refine ⟨oa5, c5, oa6, c6, h.le, h.size, h.many, h.res, h.resF, a5, a6, fun j hj => ?_, h.below⟩
  obtain ⟨b5, e5, k5⟩ := q5 j (by omega)
  obtain ⟨b6, e6, k6⟩ := q6 j (by omega)
  have hr := h.rws.2 j (by omega) (by simpa using hj)
  have hlj : lo[j]? = some (lo[j]'(by omega)) := List.getElem?_eq_getElem (by omega)
  have hs := hr.1
  rw [show (E.map (·.2))[j]'(by simpa using hj) = (E[j]'hj).2 by simp] at hs
  obtain ⟨ob, nb, cb, e⟩ : ∃ ob nb cb, lo[j]'(by omega) = .slice ob nb cb := by
    rcases hs with ⟨e, _⟩ | ⟨a, c, e, _⟩
    · exact ⟨_, _, _, e⟩
    · exact ⟨_, _, _, e⟩
  rw [e] at hs hlj
  exact ⟨b5, b6, ob, nb, cb, e5, e6, by rw [k5]; simp [kl5C, hj], by rw [k6, hlj], hs⟩
theorem pre_atC {E : List (Nat × List Vl)} {pre : List RowX} {x : RowX} (h : (pre ++ [x]).map tagR <+: E) : ∃ hl : pre.length < E.length, E[pre.length] = tagR x := by
  obtain ⟨r, rfl⟩ := h
  refine ⟨by simp, ?_⟩
  simp
theorem pre_leC {E : List (Nat × List Vl)} {pre : List RowX} (h : pre.map tagR <+: E) : pre.length ≤ E.length := by
  obtain ⟨r, rfl⟩ := h
  simp
end Go.Proofs.YtocmjlnhcloccaaGreatDoor
