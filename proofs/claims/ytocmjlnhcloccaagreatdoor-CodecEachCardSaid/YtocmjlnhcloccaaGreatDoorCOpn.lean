/-
  values and bytes opened.
-/
import Derived.Test.YtocmjlnhcloccaaGreatDoorSOpen
import Derived.Test.YtocmjlnhcloccaaGreatDoorOctA
import Derived.Test.YtocmjlnhcloccaaGreatDoorSSch
namespace Go.Proofs.YtocmjlnhcloccaaGreatDoor
open Go.Joins Go.ChangeShapes Go.WideShapes Go.ChangeAt Go.RowKit Go.Deep

section
variable {H : Type} {enc : TypeId × Value → H}
set_option maxRecDepth 100000 in
theorem cells_val5 {W : World} {sp : Nat → Bool} {base : Nat} {held : Bool} {a : Addr} {i : Nat} {cs : List Value} {n : Nat} {x : DataW H × List MemPlace}
    (hc : W.cells? base (a.add (i * Tryz.prog.cellsOf 68)) (Tryz.prog.cellsOf 68) = some cs) (h : DataW.trod enc Tryz.prog W base sp held n 68 cs = some x) :
    ∃ v : Vl, ValAt W (a.add (i * 4)) v ∧ v.s.size ≤ 9223372036854775807 ∧ 0 ≤ v.u ∧ v.u < 18446744073709551616 := by
  rw [cVal] at hc
  obtain ⟨_, hl, hat⟩ := World.cells?_some hc
  obtain ⟨y0, y1, y2, y3, m, _, _, h0, h1, h2, h3⟩ := trod_struct4 Tryz.underlying68 h
  obtain ⟨c0, c1, c2, c3, rfl⟩ : ∃ c0 c1 c2 c3, cs = [c0, c1, c2, c3] := by
    match cs, hl with
    | [c0, c1, c2, c3], _ => exact ⟨c0, c1, c2, c3, rfl⟩
  rw [show Tryz.prog.cellsOf 65 = 1 by kernel_rfl] at h0
  rw [show Tryz.prog.cellsOf 2 = 1 by kernel_rfl] at h1
  rw [show Tryz.prog.cellsOf 66 = 1 by kernel_rfl] at h2
  rw [show Tryz.prog.cellsOf 9 = 1 by kernel_rfl] at h3
  obtain ⟨k, e0, _, _⟩ := DataW.trod_int Tryz.underlying65 h0
  obtain ⟨u1, e1, _, _⟩ := DataW.trod_int Tryz.underlying2 h1
  obtain ⟨u2, e2, _, wf⟩ := DataW.trod_int Tryz.underlying66 h2
  obtain ⟨s, e3, _, hs⟩ := DataW.trod_string Tryz.underlying9 h3
  simp at e0 e1 e2 e3
  subst e0 e1 e2 e3
  have hwf : 0 ≤ u2 ∧ u2 ≤ 18446744073709551615 := by
    have w2 : (decide (0 ≤ u2) && decide (u2 ≤ 18446744073709551615)) = true := wf
    simpa using w2
  refine ⟨⟨k, u1, u2, s⟩, ⟨?_, ?_, ?_, ?_⟩, hs, hwf.1, Int.lt_add_one_of_le hwf.2⟩
  · exact hat 0 (by omega)
  · rw [← add_one _ _ 1 (by omega)]; exact hat 1 (by omega)
  · rw [← add_one _ _ 2 (by omega)]; exact hat 2 (by omega)
  · rw [← add_one _ _ 3 (by omega)]; exact hat 3 (by omega)
theorem vals_cells5 {W : World} {sp : Nat → Bool} {base : Nat} {held : Bool} {fuel : Nat} {cs : List Value} {x : DataW H × List MemPlace} (hf : DataW.trod enc Tryz.prog W base sp held fuel 27 cs = some x) :
    ∃ oa cap, ∃ l : List Vl, cs = [.slice oa l.length cap] ∧ ValsIn W oa l ∧ l.length ≤ cap ∧ cap ≤ 9223372036854775807 ∧ ∀ y ∈ l, y.s.size ≤ 9223372036854775807 ∧ 0 ≤ y.u ∧ y.u < 18446744073709551616 := by
  rcases open_slice Tryz.underlying27 hf with ⟨rfl, _⟩ | ⟨a, len, cap, m, n, D, Pl, rfl, _, hl, hm, hmm, _, hi⟩
  · exact ⟨none, 0, [], rfl, fun j hj => absurd hj (Nat.not_lt_zero j), Nat.le_refl _, by omega, fun _ h => by cases h⟩
  · have hlm : len ≤ m := by rw [hmm]; split <;> omega
    obtain ⟨l, hll, hp⟩ := pick_list' (p := fun i (y : Vl) => (ValAt W (a.add (i * 4)) y) ∧ y.s.size ≤ 9223372036854775807 ∧ 0 ≤ y.u ∧ y.u < 18446744073709551616) len (fun i hi' => by
      obtain ⟨cs, hc, ht⟩ := hi i (by omega)
      exact cells_val5 hc ht)
    subst hll
    refine ⟨some a, cap, l, rfl, fun j hj => ⟨a, rfl, (hp j hj).1⟩, hl, by unfold maxLen at hm; omega, fun y hy => ?_⟩
    obtain ⟨j, hj, rfl⟩ := List.getElem_of_mem hy
    exact (hp j hj).2
set_option maxRecDepth 100000 in
theorem open_vals5 {W : World} {b : Nat} {v : Value} {d : DataW H} {p : List MemPlace} {sp : Nat → Bool} {base : Nat} {held : Bool}
    (hv : Value.okWide Tryz.prog W .any b 27 v) (h : DataW.Trod enc Tryz.prog W base sp held 27 v d p) :
    ∃ oa cap, ∃ l : List Vl, v = .slice oa l.length cap ∧ ValsIn W oa l ∧ l.length ≤ cap ∧ cap ≤ 9223372036854775807 ∧ ∀ y ∈ l, y.s.size ≤ 9223372036854775807 ∧ 0 ≤ y.u ∧ y.u < 18446744073709551616 := by
  obtain ⟨a0, len0, cap0, rfl⟩ := okWide_slice Tryz.underlying27 hv
  obtain ⟨fuel, hf⟩ := h
  obtain ⟨oa, cap, l, e, r⟩ := vals_cells5 hf
  simp [Value.cells] at e
  obtain ⟨rfl, rfl, rfl⟩ := e
  exact ⟨_, _, l, rfl, r⟩
end
end Go.Proofs.YtocmjlnhcloccaaGreatDoor
namespace Go.Proofs.YtocmjlnhcloccaaGreatDoor
open Go.Joins Go.ChangeShapes Go.WideShapes Go.ChangeAt Go.RowKit Go.Deep

theorem and_both {a b : Bool} (h : (a && b) = true) : a = true ∧ b = true := by simpa using h
theorem cU8 : Tryz.prog.cellsOf 5 = 1 := by kernel_rfl
section
variable {H : Type} {enc : TypeId × Value → H}
set_option maxRecDepth 100000 in
theorem open_bytes {W : World} {b : Nat} {v : Value} {d : DataW H} {p : List MemPlace} {sp : Nat → Bool} {base : Nat} {held : Bool}
    (hv : Value.okWide Tryz.prog W .any b 31 v) (h : DataW.Trod enc Tryz.prog W base sp held 31 v d p) :
    ∃ l : List UInt8, BytesOf W v l ∧ l.length ≤ 9223372036854775807 := by
  obtain ⟨a0, len0, cap0, rfl⟩ := okWide_slice Tryz.underlying31 hv
  obtain ⟨fuel, hf⟩ := h
  rcases open_slice1 Tryz.underlying31 cU8 hf with ⟨hcs, _⟩ | ⟨a, len, cap, m, n, V, D, Pl, hcs, _, hl, hm, hmm, _, hi⟩
  · simp [Value.cells] at hcs
    obtain ⟨rfl, rfl, rfl⟩ := hcs
    exact ⟨[], .inl ⟨rfl, rfl⟩, by simp⟩
  · simp [Value.cells] at hcs
    obtain ⟨rfl, rfl, rfl⟩ := hcs
    have hlm : len0 ≤ m := by rw [hmm]; split <;> omega
    obtain ⟨l, hll, hp⟩ := pick_list' (p := fun i (c : UInt8) => W.cell? (a.add i) = some (.int .u8 (c.toNat : Int))) len0 (fun i hi' => by
      obtain ⟨hc, ht⟩ := hi i (by omega)
      obtain ⟨k, e0, _, w0⟩ := DataW.trod_int Tryz.underlying5 ht
      simp only [List.cons.injEq, and_true] at e0
      have hk : 0 ≤ k ∧ k ≤ 255 := ⟨of_decide_eq_true (and_both w0).1, of_decide_eq_true (and_both w0).2⟩
      refine ⟨UInt8.ofNat k.toNat, ?_⟩
      rw [hc, e0, UInt8.toNat_ofNat']
      congr 2
      omega)
    subst hll
    exact ⟨l, .inr ⟨a, cap0, rfl, hl, hp⟩, by unfold maxLen at hm; omega⟩
end
end Go.Proofs.YtocmjlnhcloccaaGreatDoor
