/-
  Arguments opened to lists of rows of bytes, to pairs of numbers.
-/
import Derived.Test.YtbhgcioeibhjeaaDoorLLOpen
import Derived.Test.YtbhgcioeibhjeaaDoorLRows
import Derived.OpenShut
namespace Go.Proofs.YtbhgcioeibhjeaaDoor
open Go.Joins Go.ChangeShapes Go.WideShapes Go.ChangeAt Go.RowKit Go.Deep

section
variable {H : Type} {enc : TypeId × Value → H}

theorem cBts : Tryd.prog.cellsOf 22 = 1 := by kernel_rfl
theorem cPair : Tryd.prog.cellsOf 41 = 2 := by kernel_rfl
theorem bts_cellsL {W : World} {sp : Nat → Bool} {base : Nat} {held : Bool} {fuel : Nat} {cs : List Value} {x : DataW H × List MemPlace} (hf : DataW.trod enc Tryd.prog W base sp held fuel 22 cs = some x) :
    ∃ (v : Value) (l : List UInt8), cs = [v] ∧ BytesOf W v l := by
  rcases open_slice1 Tryd.underlying22 cU8L hf with ⟨rfl, _⟩ | ⟨a, len, cap, m, n, V, D, Pl, rfl, _, hl, hm, hmm, _, hi⟩
  · exact ⟨_, [], rfl, .inl ⟨rfl, rfl⟩⟩
  · have hlm : len ≤ m := by rw [hmm]; split <;> omega
    obtain ⟨l, hll, hp⟩ := pick_list' (p := fun i (c : UInt8) => W.cell? (a.add i) = some (.int .u8 (c.toNat : Int))) len (fun i hi' => by
      obtain ⟨hc, ht⟩ := hi i (by omega)
      obtain ⟨k, e0, _, w0⟩ := DataW.trod_int Tryd.underlying5 ht
      simp only [List.cons.injEq, and_true] at e0
      have hk : 0 ≤ k ∧ k ≤ 255 := ⟨of_decide_eq_true (and_bothL w0).1, of_decide_eq_true (and_bothL w0).2⟩
      refine ⟨UInt8.ofNat k.toNat, ?_⟩
      rw [hc, e0, UInt8.toNat_ofNat']
      congr 2
      omega)
    subst hll
    exact ⟨_, l, rfl, .inr ⟨a, cap, rfl, hl, hp⟩⟩
set_option maxRecDepth 100000 in
theorem open_rowsL {W : World} {b : Nat} {v : Value} {d : DataW H} {p : List MemPlace} {sp : Nat → Bool} {base : Nat} {held : Bool}
    (hv : Value.okWide Tryd.prog W .any b 40 v) (h : DataW.Trod enc Tryd.prog W base sp held 40 v d p) :
    ∃ ol cl, ∃ L : List (List UInt8), v = .slice ol L.length cl ∧ RowsK (fun _ => False) W W ol L ∧ (ol = none → cl = 0) ∧ L.length ≤ cl ∧ L.length ≤ 9223372036854775807 := by
  obtain ⟨a0, len0, cap0, rfl⟩ := okWide_slice Tryd.underlying40 hv
  obtain ⟨fuel, hf⟩ := h
  rcases open_slice Tryd.underlying40 hf with ⟨hcs, _⟩ | ⟨a, len, cap, m, n, D, Pl, hcs, _, hl, hm, hmm, _, hi⟩
  · simp [Value.cells] at hcs
    obtain ⟨rfl, rfl, rfl⟩ := hcs
    exact ⟨none, 0, [], rfl, fun j hj => absurd hj (Nat.not_lt_zero j), fun _ => rfl, by simp, by simp⟩
  · simp [Value.cells] at hcs
    obtain ⟨rfl, rfl, rfl⟩ := hcs
    have hlm : len0 ≤ m := by rw [hmm]; split <;> omega
    obtain ⟨L, hll, hp⟩ := pick_list' (p := fun i (l : List UInt8) => ∃ v, W.cell? (a.add i) = some v ∧ BytesOf W v l) len0 (fun i hi' => by
      obtain ⟨cs, hc, ht⟩ := hi i (by omega)
      rw [cBts] at hc
      obtain ⟨v, l, rfl, hb⟩ := bts_cellsL ht
      obtain ⟨_, _, hat⟩ := World.cells?_some hc
      have h0 := hat 0 (by omega)
      simp only [Nat.mul_one] at h0
      exact ⟨l, v, h0, hb⟩)
    subst hll
    exact ⟨some a, cap0, L, rfl, fun j hj => by
      obtain ⟨v, hc, hb⟩ := hp j hj
      exact ⟨a, v, rfl, .inl ⟨by have := World.block_lt_of_cell? W _ hc; rw [Addr.add_block] at this; exact this, hc⟩, hb⟩, (fun hn => by cases hn), hl, by unfold maxLen at hm; omega⟩
set_option maxRecDepth 100000 in
theorem open_pairI {W : World} {b : Nat} {v : Value} {d : DataW H} {p : List MemPlace} {sp : Nat → Bool} {base : Nat} {held : Bool}
    (hv : Value.okWide Tryd.prog W .any b 41 v) (h : DataW.Trod enc Tryd.prog W base sp held 41 v d p) :
    ∃ x y : Int, v = .agg #[.int .i64 x, .int .i64 y] ∧ x ≤ 9223372036854775807 ∧ y ≤ 9223372036854775807 := by
  simp only [Value.okWide, Tryd.underlying41] at hv
  obtain ⟨⟨cl⟩, rfl, hsz, _⟩ := hv
  rw [cPair] at hsz
  obtain ⟨fuel, hf⟩ := h
  obtain ⟨xs, m, _, _, _, hxl, hx⟩ := DataW.trod_array Tryd.underlying41 hf
  match cl, hsz with
  | [c0, c1], _ =>
    match xs, hxl, hx with
    | [y0, y1], _, hx =>
      have ci : Tryd.prog.cellsOf 3 = 1 := by kernel_rfl
      have h0 : DataW.trod enc Tryd.prog W base sp held m 3 (([c0, c1].drop (0 * Tryd.prog.cellsOf 3)).take (Tryd.prog.cellsOf 3)) = some y0 := hx 0 (by decide)
      have h1 : DataW.trod enc Tryd.prog W base sp held m 3 (([c0, c1].drop (1 * Tryd.prog.cellsOf 3)).take (Tryd.prog.cellsOf 3)) = some y1 := hx 1 (by decide)
      rw [ci] at h0 h1
      obtain ⟨k0, e0, _, w0⟩ := DataW.trod_int Tryd.underlying3 h0
      obtain ⟨k1, e1, _, w1⟩ := DataW.trod_int Tryd.underlying3 h1
      simp at e0 e1
      subst e0 e1
      exact ⟨k0, k1, rfl, of_decide_eq_true (and_bothL w0).2, of_decide_eq_true (and_bothL w1).2⟩
end
end Go.Proofs.YtbhgcioeibhjeaaDoor
