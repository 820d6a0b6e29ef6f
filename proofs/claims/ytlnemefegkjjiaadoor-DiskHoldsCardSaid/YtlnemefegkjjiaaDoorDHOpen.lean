/-
  Arguments opened to lists of calls.
-/
import Derived.Test.YtlnemefegkjjiaaDoorDOpen
import Derived.Test.YtlnemefegkjjiaaDoorDFew
namespace Go.Proofs.YtlnemefegkjjiaaDoor
open Go.Joins Go.ChangeShapes Go.WideShapes Go.ChangeAt Go.RowKit Go.Deep

theorem pick_list' {α : Type} {p : Nat → α → Prop} : ∀ (n : Nat), (∀ i, i < n → ∃ v, p i v) → ∃ l : List α, l.length = n ∧ ∀ (i : Nat) (h : i < l.length), p i l[i]
  | 0, _ => ⟨[], rfl, fun i h => absurd h (Nat.not_lt_zero i)⟩
  | n + 1, h => by
    obtain ⟨l, hl, hp⟩ := pick_list' n (fun i hi => h i (by omega))
    obtain ⟨v, hv⟩ := h n (by omega)
    refine ⟨l ++ [v], by simp [hl], fun i hi => ?_⟩
    by_cases hlt : i < l.length
    · rw [List.getElem_append_left hlt]
      exact hp i hlt
    · have : i = n := by simp at hi; omega
      subst this
      rw [List.getElem_append_right (by omega)]
      simpa [hl] using hv

section
variable {H : Type} {enc : TypeId × Value → H}

theorem and_bothD {a b : Bool} (h : (a && b) = true) : a = true ∧ b = true := by simpa using h
theorem cU8D : Tryd.prog.cellsOf 5 = 1 := by kernel_rfl
set_option maxRecDepth 100000 in
theorem open_i64D {W : World} {b : Nat} {v : Value} {d : DataW H} {p : List MemPlace} {sp : Nat → Bool} {base : Nat} {held : Bool}
    (hv : Value.okWide Tryd.prog W .any b 3 v) (h : DataW.Trod enc Tryd.prog W base sp held 3 v d p) : ∃ n : Int, v = .int .i64 n ∧ -9223372036854775808 ≤ n ∧ n ≤ 9223372036854775807 := by
  obtain ⟨k, rfl, _, _, w0⟩ := open_int Tryd.underlying3 hv h
  exact ⟨k, rfl, of_decide_eq_true (and_bothD w0).1, of_decide_eq_true (and_bothD w0).2⟩
theorem bts_cells {W : World} {sp : Nat → Bool} {base : Nat} {held : Bool} {fuel : Nat} {cs : List Value} {x : DataW H × List MemPlace} (hf : DataW.trod enc Tryd.prog W base sp held fuel 31 cs = some x) :
    ∃ (v : Value) (l : List UInt8), cs = [v] ∧ BtAt W v l := by
  rcases open_slice1 Tryd.underlying31 cU8D hf with ⟨rfl, _⟩ | ⟨a, len, cap, m, n, V, D, Pl, rfl, _, hl, hm, hmm, _, hi⟩
  · exact ⟨_, [], rfl, none, 0, rfl, fun j hj => absurd hj (Nat.not_lt_zero j)⟩
  · have hlm : len ≤ m := by rw [hmm]; split <;> omega
    obtain ⟨l, hll, hp⟩ := pick_list' (p := fun i (c : UInt8) => W.cell? (a.add i) = some (.int .u8 (c.toNat : Int))) len (fun i hi' => by
      obtain ⟨hc, ht⟩ := hi i (by omega)
      obtain ⟨k, e0, _, w0⟩ := DataW.trod_int Tryd.underlying5 ht
      simp only [List.cons.injEq, and_true] at e0
      have hk : 0 ≤ k ∧ k ≤ 255 := ⟨of_decide_eq_true (and_bothD w0).1, of_decide_eq_true (and_bothD w0).2⟩
      refine ⟨UInt8.ofNat k.toNat, ?_⟩
      rw [hc, e0, UInt8.toNat_ofNat']
      congr 2
      omega)
    subst hll
    exact ⟨_, l, rfl, some a, cap, rfl, fun j hj => ⟨a, rfl, hp j hj⟩⟩
theorem add_oneD (a : Addr) (n f : Nat) (hf : f ≠ 0) : (a.add n).add f = ⟨(a.add n).block, (a.add n).off + f, none⟩ := by
  generalize a.add n = c
  unfold Addr.add
  rw [if_neg hf]
set_option maxRecDepth 100000 in
theorem cells_act {W : World} {sp : Nat → Bool} {base : Nat} {held : Bool} {a : Addr} {i : Nat} {cs : List Value} {n : Nat} {x : DataW H × List MemPlace}
    (hc : W.cells? base (a.add (i * Tryd.prog.cellsOf 33)) (Tryd.prog.cellsOf 33) = some cs) (h : DataW.trod enc Tryd.prog W base sp held n 33 cs = some x) :
    ∃ y : ActV, W.cell? (a.add (i * 5)) = some (.int .i64 y.wh) ∧ W.cell? ⟨(a.add (i * 5)).block, (a.add (i * 5)).off + 1, none⟩ = some (.int .i64 y.fi) ∧ W.cell? ⟨(a.add (i * 5)).block, (a.add (i * 5)).off + 2, none⟩ = some (.int .i64 y.nn) ∧ W.cell? ⟨(a.add (i * 5)).block, (a.add (i * 5)).off + 3, none⟩ = some (.int .i64 y.tn) ∧ W.cell? ⟨(a.add (i * 5)).block, (a.add (i * 5)).off + 4, none⟩ = some y.bs ∧ BtAt W y.bs y.l := by
  rw [cAct] at hc
  obtain ⟨_, hl, hat⟩ := World.cells?_some hc
  obtain ⟨xs, m, _, _, _, hlen, hx⟩ := DataW.trod_struct Tryd.underlying33 h
  obtain ⟨c0, c1, c2, c3, c4, rfl⟩ : ∃ c0 c1 c2 c3 c4, cs = [c0, c1, c2, c3, c4] := by
    match cs, hl with
    | [c0, c1, c2, c3, c4], _ => exact ⟨c0, c1, c2, c3, c4, rfl⟩
  match xs, hlen, hx with
  | [y0, y1, y2, y3, y4], _, hx =>
    have h0 : DataW.trod enc Tryd.prog W base sp held m 3 (([c0, c1, c2, c3, c4].drop 0).take (Tryd.prog.cellsOf 3)) = some y0 := hx 0 _ rfl
    have h1 : DataW.trod enc Tryd.prog W base sp held m 3 (([c0, c1, c2, c3, c4].drop 1).take (Tryd.prog.cellsOf 3)) = some y1 := hx 1 _ rfl
    have h2 : DataW.trod enc Tryd.prog W base sp held m 3 (([c0, c1, c2, c3, c4].drop 2).take (Tryd.prog.cellsOf 3)) = some y2 := hx 2 _ rfl
    have h3 : DataW.trod enc Tryd.prog W base sp held m 3 (([c0, c1, c2, c3, c4].drop 3).take (Tryd.prog.cellsOf 3)) = some y3 := hx 3 _ rfl
    have h4 : DataW.trod enc Tryd.prog W base sp held m 31 (([c0, c1, c2, c3, c4].drop 4).take (Tryd.prog.cellsOf 31)) = some y4 := hx 4 _ rfl
    rw [show Tryd.prog.cellsOf 3 = 1 by kernel_rfl] at h0 h1 h2 h3
    rw [show Tryd.prog.cellsOf 31 = 1 by kernel_rfl] at h4
    obtain ⟨k0, e0, _, _⟩ := DataW.trod_int Tryd.underlying3 h0
    obtain ⟨k1, e1, _, _⟩ := DataW.trod_int Tryd.underlying3 h1
    obtain ⟨k2, e2, _, _⟩ := DataW.trod_int Tryd.underlying3 h2
    obtain ⟨k3, e3, _, _⟩ := DataW.trod_int Tryd.underlying3 h3
    obtain ⟨v4, l4, e4, b4⟩ := bts_cells h4
    simp at e0 e1 e2 e3 e4
    subst e0 e1 e2 e3 e4
    refine ⟨⟨k0, k1, k2, k3, c4, l4⟩, ?_, ?_, ?_, ?_, ?_, b4⟩
    · exact hat 0 (by omega)
    · rw [← add_oneD _ _ 1 (by omega)]; exact hat 1 (by omega)
    · rw [← add_oneD _ _ 2 (by omega)]; exact hat 2 (by omega)
    · rw [← add_oneD _ _ 3 (by omega)]; exact hat 3 (by omega)
    · rw [← add_oneD _ _ 4 (by omega)]; exact hat 4 (by omega)
set_option maxRecDepth 100000 in
theorem open_acts {W : World} {b : Nat} {v : Value} {d : DataW H} {p : List MemPlace} {sp : Nat → Bool} {base : Nat} {held : Bool}
    (hv : Value.okWide Tryd.prog W .any b 22 v) (h : DataW.Trod enc Tryd.prog W base sp held 22 v d p) :
    ∃ oa cap, ∃ l : List ActV, v = .slice oa l.length cap ∧ ActsIn W oa l ∧ l.length ≤ 9223372036854775807 := by
  obtain ⟨a0, len0, cap0, rfl⟩ := okWide_slice Tryd.underlying22 hv
  obtain ⟨fuel, hf⟩ := h
  rcases open_slice Tryd.underlying22 hf with ⟨hcs, _⟩ | ⟨a, len, cap, m, n, D, Pl, hcs, _, hl, hm, hmm, _, hi⟩
  · simp [Value.cells] at hcs
    obtain ⟨rfl, rfl, rfl⟩ := hcs
    exact ⟨none, 0, [], rfl, fun j hj => absurd hj (Nat.not_lt_zero j), by simp⟩
  · simp [Value.cells] at hcs
    obtain ⟨rfl, rfl, rfl⟩ := hcs
    have hlm : len0 ≤ m := by rw [hmm]; split <;> omega
    obtain ⟨l, hll, hp⟩ := pick_list' (p := fun i (y : ActV) => W.cell? (a.add (i * 5)) = some (.int .i64 y.wh) ∧ W.cell? ⟨(a.add (i * 5)).block, (a.add (i * 5)).off + 1, none⟩ = some (.int .i64 y.fi) ∧ W.cell? ⟨(a.add (i * 5)).block, (a.add (i * 5)).off + 2, none⟩ = some (.int .i64 y.nn) ∧ W.cell? ⟨(a.add (i * 5)).block, (a.add (i * 5)).off + 3, none⟩ = some (.int .i64 y.tn) ∧ W.cell? ⟨(a.add (i * 5)).block, (a.add (i * 5)).off + 4, none⟩ = some y.bs ∧ BtAt W y.bs y.l) len0 (fun i hi' => by
      obtain ⟨cs, hc, ht⟩ := hi i (by omega)
      exact cells_act hc ht)
    subst hll
    exact ⟨some a, cap0, l, rfl, fun j hj => ⟨a, rfl, hp j hj⟩, by unfold maxLen at hm; omega⟩
end
end Go.Proofs.YtlnemefegkjjiaaDoor
