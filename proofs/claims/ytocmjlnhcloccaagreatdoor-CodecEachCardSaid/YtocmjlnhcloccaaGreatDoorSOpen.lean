/-
  Arguments opened to values and lists of values; what is read stays.
-/
import Derived.Test.YtocmjlnhcloccaaGreatDoorSLaid
import Derived.Lib.SmallJoins
import Derived.Deep.Slices
import Derived.Deep.Fields
import Derived.ChangeSame
import Derived.Carry
namespace Go.Proofs.YtocmjlnhcloccaaGreatDoor
open Go.Joins Go.ChangeShapes Go.WideShapes Go.ChangeAt Go.RowKit Go.Deep

theorem laidOut : laidOutB Tryz.prog = true := by kernel_rfl
theorem cVal : Tryz.prog.cellsOf 68 = 4 := by kernel_rfl

section
variable {H : Type} {enc : TypeId × Value → H}

theorem trodAll_below {W W' : World} (hb : Below W.heap.size W W') : ∀ {ts : List TypeId} {vs : List Value} {ds : List (DataW H)} {ps : List MemPlace}, (∀ t ∈ ts, Tryz.prog.readableRec t = true ∧ t < Tryz.prog.types.size) → DataW.TrodAll enc Tryz.prog W 0 (fun _ => true) true ts vs ds ps → (∀ x ∈ ps, x.block < W.heap.size) → DataW.TrodAll enc Tryz.prog W' 0 (fun b => decide (b < W.heap.size)) true ts vs ds ps
  | [], [], [], _, _, h, _ => h
  | _ :: _, _ :: _, _ :: _, _, hT, ⟨p, q, h1, h2, e⟩, hs => ⟨p, q, Below.trod laidOut (hT _ (List.mem_cons_self ..)).1 (hT _ (List.mem_cons_self ..)).2 h1 hb (fun x hx => hs x (by rw [e]; exact List.mem_append_left _ hx)), trodAll_below hb (fun t ht => hT t (List.mem_cons_of_mem _ ht)) h2 (fun x hx => hs x (by rw [e]; exact List.mem_append_right _ hx)), e⟩

/-- True is told, and what came in reads as it did. -/
theorem post_true {f : Func} {s : ChangeSpec} {W W' : World} {args : Array Value} {ds : List (DataW H)} {gs : List (DataW H)} {before : List MemPlace} (hv : s.vars = []) (hr : f.resultTypes = #[4])
    (hps : ∀ t ∈ f.params.toList, Tryz.prog.readableRec t = true ∧ t < Tryz.prog.types.size)
    (hW : DataW.Whole enc Tryz.prog f.params.toList s.vars false W args.toList ds gs before) (hb : Below W.heap.size W W')
    (hf : s.fn H (ds ++ gs) = { results := [.lit (.bool true)], args := ds }) :
    s.post enc Tryz.prog f false true false false W args (.bool true) W' := by
  have hW' := hW
  obtain ⟨p, q, hA0, hV, rfl, hfz, hnd⟩ := hW
  rw [hv] at hV
  obtain ⟨rfl, rfl⟩ := trodVars_none hV
  refine ⟨_, _, _, [], p ++ [], [], hW', ?_, ?_, ?_, hb.frame _, fun h => by cases h⟩
  · rw [hf, hr]
    exact trodAll_cons_mk (shut_bool Tryz.underlying4 _) trodAll_mk0
  · rw [hf]
    simp only [List.append_nil]
    exact trodAll_below hb hps hA0 (fun x hx => by simpa using hW'.lt x (List.mem_append_left _ hx))
  · rw [hf, hv]
    rfl

set_option maxRecDepth 100000 in
theorem open_val {W : World} {b : Nat} {v : Value} {d : DataW H} {p : List MemPlace} {sp : Nat → Bool} {base : Nat} {held : Bool}
    (hv : Value.okWide Tryz.prog W .any b 68 v) (h : DataW.Trod enc Tryz.prog W base sp held 68 v d p) :
    ∃ x : Vl, v = x.val ∧ x.s.size ≤ 9223372036854775807 := by
  obtain ⟨v0, v1, v2, v3, y0, y1, y2, y3, n, rfl, _, _, h0, h1, h2, h3⟩ := open_agg4 Tryz.underlying68 (by kernel_rfl) cVal hv h
  obtain ⟨k, e0, _, _⟩ := DataW.trod_int Tryz.underlying65 h0
  obtain ⟨i, e1, _, _⟩ := DataW.trod_int Tryz.underlying2 h1
  obtain ⟨u, e2, _, _⟩ := DataW.trod_int Tryz.underlying66 h2
  obtain ⟨s, e3, _, hs⟩ := DataW.trod_string Tryz.underlying9 h3
  simp only [List.cons.injEq, and_true] at e0 e1 e2 e3
  subst e0 e1 e2 e3
  exact ⟨⟨k, i, u, s⟩, rfl, hs⟩
theorem cCol : Tryz.prog.cellsOf 64 = 4 := by kernel_rfl
set_option maxRecDepth 100000 in
theorem open_col {W : World} {b : Nat} {v : Value} {d : DataW H} {p : List MemPlace} {sp : Nat → Bool} {base : Nat} {held : Bool}
    (hv : Value.okWide Tryz.prog W .any b 64 v) (h : DataW.Trod enc Tryz.prog W base sp held 64 v d p) :
    ∃ c : Col, v = c.val ∧ c.n.size ≤ 9223372036854775807 := by
  obtain ⟨v0, v1, v2, v3, y0, y1, y2, y3, n, rfl, _, _, h0, h1, h2, h3⟩ := open_agg4 Tryz.underlying64 (by kernel_rfl) cCol hv h
  obtain ⟨s, e0, _, hs⟩ := DataW.trod_string Tryz.underlying9 h0
  obtain ⟨i, e1, _, _⟩ := DataW.trod_int Tryz.underlying62 h1
  obtain ⟨z, e2, _, _⟩ := DataW.trod_int Tryz.underlying3 h2
  obtain ⟨u, e3, _⟩ := DataW.trod_bool Tryz.underlying4 h3
  simp only [List.cons.injEq, and_true] at e0 e1 e2 e3
  subst e0 e1 e2 e3
  exact ⟨⟨s, i, z, u⟩, rfl, hs⟩
theorem add_one (a : Addr) (n f : Nat) (hf : f ≠ 0) : (a.add n).add f = ⟨(a.add n).block, (a.add n).off + f, none⟩ := by
  generalize a.add n = c
  unfold Addr.add
  rw [if_neg hf]
set_option maxRecDepth 100000 in
theorem cells_val {W : World} {sp : Nat → Bool} {base : Nat} {held : Bool} {a : Addr} {i : Nat} {cs : List Value} {n : Nat} {x : DataW H × List MemPlace}
    (hc : W.cells? base (a.add (i * Tryz.prog.cellsOf 68)) (Tryz.prog.cellsOf 68) = some cs) (h : DataW.trod enc Tryz.prog W base sp held n 68 cs = some x) :
    ∃ v : Vl, ValAt W (a.add (i * 4)) v ∧ v.s.size ≤ 9223372036854775807 := by
  rw [cVal] at hc
  obtain ⟨_, hl, hat⟩ := World.cells?_some hc
  obtain ⟨y0, y1, y2, y3, m, _, _, h0, h1, h2, h3⟩ := trod_struct4 Tryz.underlying68 h
  obtain ⟨c0, c1, c2, c3, rfl⟩ : ∃ c0 c1 c2 c3, cs = [c0, c1, c2, c3] := by
    match cs, hl with
    | [c0, c1, c2, c3], _ => exact ⟨c0, c1, c2, c3, rfl⟩
  rw [show Tryz.prog.cellsOf 65 = 1 by kernel_rfl] at h0
  rw [show Tryz.prog.cellsOf 2 = 1 by kernel_rfl] at h1
  rw [show Tryz.prog.cellsOf 66 = 1 by kernel_rfl] at h2
  rw [show Tryz.prog.cellsOf 9 = 1 by kernel_rfl] at h3
  obtain ⟨k, e0, _, _⟩ := DataW.trod_int Tryz.underlying65 h0
  obtain ⟨u1, e1, _, _⟩ := DataW.trod_int Tryz.underlying2 h1
  obtain ⟨u2, e2, _, _⟩ := DataW.trod_int Tryz.underlying66 h2
  obtain ⟨s, e3, _, hs⟩ := DataW.trod_string Tryz.underlying9 h3
  simp at e0 e1 e2 e3
  subst e0 e1 e2 e3
  refine ⟨⟨k, u1, u2, s⟩, ⟨?_, ?_, ?_, ?_⟩, hs⟩
  · exact hat 0 (by omega)
  · rw [← add_one _ _ 1 (by omega)]; exact hat 1 (by omega)
  · rw [← add_one _ _ 2 (by omega)]; exact hat 2 (by omega)
  · rw [← add_one _ _ 3 (by omega)]; exact hat 3 (by omega)
set_option maxRecDepth 100000 in
theorem cells_col {W : World} {sp : Nat → Bool} {base : Nat} {held : Bool} {a : Addr} {i : Nat} {cs : List Value} {n : Nat} {x : DataW H × List MemPlace}
    (hc : W.cells? base (a.add (i * Tryz.prog.cellsOf 64)) (Tryz.prog.cellsOf 64) = some cs) (h : DataW.trod enc Tryz.prog W base sp held n 64 cs = some x) :
    ∃ c : Col, ColAt W (a.add (i * 4)) c ∧ c.n.size ≤ 9223372036854775807 := by
  rw [cCol] at hc
  obtain ⟨_, hl, hat⟩ := World.cells?_some hc
  obtain ⟨y0, y1, y2, y3, m, _, _, h0, h1, h2, h3⟩ := trod_struct4 Tryz.underlying64 h
  obtain ⟨c0, c1, c2, c3, rfl⟩ : ∃ c0 c1 c2 c3, cs = [c0, c1, c2, c3] := by
    match cs, hl with
    | [c0, c1, c2, c3], _ => exact ⟨c0, c1, c2, c3, rfl⟩
  rw [show Tryz.prog.cellsOf 9 = 1 by kernel_rfl] at h0
  rw [show Tryz.prog.cellsOf 62 = 1 by kernel_rfl] at h1
  rw [show Tryz.prog.cellsOf 3 = 1 by kernel_rfl] at h2
  rw [show Tryz.prog.cellsOf 4 = 1 by kernel_rfl] at h3
  obtain ⟨s, e0, _, hs⟩ := DataW.trod_string Tryz.underlying9 h0
  obtain ⟨u1, e1, _, _⟩ := DataW.trod_int Tryz.underlying62 h1
  obtain ⟨u2, e2, _, _⟩ := DataW.trod_int Tryz.underlying3 h2
  obtain ⟨u, e3, _⟩ := DataW.trod_bool Tryz.underlying4 h3
  simp at e0 e1 e2 e3
  subst e0 e1 e2 e3
  refine ⟨⟨s, u1, u2, u⟩, ⟨?_, ?_, ?_, ?_⟩, hs⟩
  · exact hat 0 (by omega)
  · rw [← add_one _ _ 1 (by omega)]; exact hat 1 (by omega)
  · rw [← add_one _ _ 2 (by omega)]; exact hat 2 (by omega)
  · rw [← add_one _ _ 3 (by omega)]; exact hat 3 (by omega)

theorem vals_cells {W : World} {sp : Nat → Bool} {base : Nat} {held : Bool} {fuel : Nat} {cs : List Value} {x : DataW H × List MemPlace} (hf : DataW.trod enc Tryz.prog W base sp held fuel 27 cs = some x) :
    ∃ oa cap, ∃ l : List Vl, cs = [.slice oa l.length cap] ∧ ValsIn W oa l ∧ l.length ≤ cap ∧ cap ≤ 9223372036854775807 ∧ ∀ y ∈ l, y.s.size ≤ 9223372036854775807 := by
  rcases open_slice Tryz.underlying27 hf with ⟨rfl, _⟩ | ⟨a, len, cap, m, n, D, Pl, rfl, _, hl, hm, hmm, _, hi⟩
  · exact ⟨none, 0, [], rfl, fun j hj => absurd hj (Nat.not_lt_zero j), Nat.le_refl _, by omega, fun _ h => by cases h⟩
  · have hlm : len ≤ m := by rw [hmm]; split <;> omega
    obtain ⟨l, hll, hp⟩ := pick_list' (p := fun i (y : Vl) => (ValAt W (a.add (i * 4)) y) ∧ y.s.size ≤ 9223372036854775807) len (fun i hi' => by
      obtain ⟨cs, hc, ht⟩ := hi i (by omega)
      exact cells_val hc ht)
    subst hll
    refine ⟨some a, cap, l, rfl, fun j hj => ⟨a, rfl, (hp j hj).1⟩, hl, by unfold maxLen at hm; omega, fun y hy => ?_⟩
    obtain ⟨j, hj, rfl⟩ := List.getElem_of_mem hy
    exact (hp j hj).2
theorem cols_cells {W : World} {sp : Nat → Bool} {base : Nat} {held : Bool} {fuel : Nat} {cs : List Value} {x : DataW H × List MemPlace} (hf : DataW.trod enc Tryz.prog W base sp held fuel 22 cs = some x) :
    ∃ oa cap, ∃ l : List Col, cs = [.slice oa l.length cap] ∧ ColsIn W oa l ∧ l.length ≤ cap ∧ cap ≤ 9223372036854775807 ∧ ∀ y ∈ l, y.n.size ≤ 9223372036854775807 := by
  rcases open_slice Tryz.underlying22 hf with ⟨rfl, _⟩ | ⟨a, len, cap, m, n, D, Pl, rfl, _, hl, hm, hmm, _, hi⟩
  · exact ⟨none, 0, [], rfl, fun j hj => absurd hj (Nat.not_lt_zero j), Nat.le_refl _, by omega, fun _ h => by cases h⟩
  · have hlm : len ≤ m := by rw [hmm]; split <;> omega
    obtain ⟨l, hll, hp⟩ := pick_list' (p := fun i (y : Col) => (ColAt W (a.add (i * 4)) y) ∧ y.n.size ≤ 9223372036854775807) len (fun i hi' => by
      obtain ⟨cs, hc, ht⟩ := hi i (by omega)
      exact cells_col hc ht)
    subst hll
    refine ⟨some a, cap, l, rfl, fun j hj => ⟨a, rfl, (hp j hj).1⟩, hl, by unfold maxLen at hm; omega, fun y hy => ?_⟩
    obtain ⟨j, hj, rfl⟩ := List.getElem_of_mem hy
    exact (hp j hj).2
theorem cInt : Tryz.prog.cellsOf 3 = 1 := by kernel_rfl
theorem ints_cells {W : World} {sp : Nat → Bool} {base : Nat} {held : Bool} {fuel : Nat} {cs : List Value} {x : DataW H × List MemPlace} (hf : DataW.trod enc Tryz.prog W base sp held fuel 23 cs = some x) :
    ∃ oa cap, ∃ l : List Int, cs = [.slice oa l.length cap] ∧ IntsIn W oa l ∧ l.length ≤ cap ∧ cap ≤ 9223372036854775807 ∧ ∀ y ∈ l, (Lit.int .i64 y).wf = true := by
  rcases open_slice1 Tryz.underlying23 cInt hf with ⟨rfl, _⟩ | ⟨a, len, cap, m, n, V, D, Pl, rfl, _, hl, hm, hmm, _, hi⟩
  · exact ⟨none, 0, [], rfl, fun j hj => absurd hj (Nat.not_lt_zero j), Nat.le_refl _, by omega, fun _ h => by cases h⟩
  · have hlm : len ≤ m := by rw [hmm]; split <;> omega
    obtain ⟨l, hll, hp⟩ := pick_list' (p := fun i (y : Int) => W.cell? (a.add i) = some (.int .i64 y) ∧ (Lit.int .i64 y).wf = true) len (fun i hi' => by
      obtain ⟨hc, ht⟩ := hi i (by omega)
      obtain ⟨y, e, _, hw⟩ := DataW.trod_int Tryz.underlying3 ht
      simp only [List.cons.injEq, and_true] at e
      exact ⟨y, by rw [hc, e], hw⟩)
    subst hll
    refine ⟨some a, cap, l, rfl, fun j hj => ⟨a, rfl, (hp j hj).1⟩, hl, by unfold maxLen at hm; omega, fun y hy => ?_⟩
    obtain ⟨j, hj, rfl⟩ := List.getElem_of_mem hy
    exact (hp j hj).2
theorem cInts : Tryz.prog.cellsOf 23 = 1 := by kernel_rfl
theorem sets_cells {W : World} {sp : Nat → Bool} {base : Nat} {held : Bool} {fuel : Nat} {cs : List Value} {x : DataW H × List MemPlace} (hf : DataW.trod enc Tryz.prog W base sp held fuel 24 cs = some x) :
    ∃ oa cap, ∃ l : List (List Int), cs = [.slice oa l.length cap] ∧ SetsIn W oa l ∧ l.length ≤ cap ∧ cap ≤ 9223372036854775807 ∧ ∀ y ∈ l, y.length ≤ 9223372036854775807 := by
  rcases open_slice1 Tryz.underlying24 cInts hf with ⟨rfl, _⟩ | ⟨a, len, cap, m, n, V, D, Pl, rfl, _, hl, hm, hmm, _, hi⟩
  · exact ⟨none, 0, [], rfl, fun j hj => absurd hj (Nat.not_lt_zero j), Nat.le_refl _, by omega, fun _ h => by cases h⟩
  · have hlm : len ≤ m := by rw [hmm]; split <;> omega
    obtain ⟨l, hll, hp⟩ := pick_list' (p := fun i (y : List Int) => (∃ ob cb, W.cell? (a.add i) = some (.slice ob y.length cb) ∧ y.length ≤ cb ∧ IntsIn W ob y) ∧ y.length ≤ 9223372036854775807) len (fun i hi' => by
      obtain ⟨hc, ht⟩ := hi i (by omega)
      obtain ⟨ob, cb, y, e, hin, hle, hmx, _⟩ := ints_cells ht
      simp only [List.cons.injEq, and_true] at e
      exact ⟨y, ⟨ob, cb, by rw [hc, e], hle, hin⟩, by omega⟩)
    subst hll
    refine ⟨some a, cap, l, rfl, fun j hj => ?_, hl, by unfold maxLen at hm; omega, fun y hy => ?_⟩
    · obtain ⟨ob, cb, h1, h2, h3⟩ := (hp j hj).1
      exact ⟨a, ob, cb, rfl, h1, h2, h3⟩
    · obtain ⟨j, hj, rfl⟩ := List.getElem_of_mem hy
      exact (hp j hj).2
set_option maxRecDepth 100000 in
theorem open_vals {W : World} {b : Nat} {v : Value} {d : DataW H} {p : List MemPlace} {sp : Nat → Bool} {base : Nat} {held : Bool}
    (hv : Value.okWide Tryz.prog W .any b 27 v) (h : DataW.Trod enc Tryz.prog W base sp held 27 v d p) :
    ∃ oa cap, ∃ l : List Vl, v = .slice oa l.length cap ∧ ValsIn W oa l ∧ l.length ≤ cap ∧ cap ≤ 9223372036854775807 ∧ ∀ y ∈ l, y.s.size ≤ 9223372036854775807 := by
  obtain ⟨a0, len0, cap0, rfl⟩ := okWide_slice Tryz.underlying27 hv
  obtain ⟨fuel, hf⟩ := h
  obtain ⟨oa, cap, l, e, r⟩ := vals_cells hf
  simp [Value.cells] at e
  obtain ⟨rfl, rfl, rfl⟩ := e
  exact ⟨_, _, l, rfl, r⟩
set_option maxRecDepth 100000 in
theorem open_ints {W : World} {b : Nat} {v : Value} {d : DataW H} {p : List MemPlace} {sp : Nat → Bool} {base : Nat} {held : Bool}
    (hv : Value.okWide Tryz.prog W .any b 23 v) (h : DataW.Trod enc Tryz.prog W base sp held 23 v d p) :
    ∃ oa cap, ∃ l : List Int, v = .slice oa l.length cap ∧ IntsIn W oa l ∧ l.length ≤ cap ∧ cap ≤ 9223372036854775807 ∧ ∀ y ∈ l, (Lit.int .i64 y).wf = true := by
  obtain ⟨a0, len0, cap0, rfl⟩ := okWide_slice Tryz.underlying23 hv
  obtain ⟨fuel, hf⟩ := h
  obtain ⟨oa, cap, l, e, r⟩ := ints_cells hf
  simp [Value.cells] at e
  obtain ⟨rfl, rfl, rfl⟩ := e
  exact ⟨_, _, l, rfl, r⟩
theorem cSch : Tryz.prog.cellsOf 26 = 3 := by kernel_rfl
set_option maxRecDepth 100000 in
theorem open_sch {W : World} {b : Nat} {v : Value} {d : DataW H} {p : List MemPlace} {sp : Nat → Bool} {base : Nat} {held : Bool}
    (hv : Value.okWide Tryz.prog W .any b 26 v) (h : DataW.Trod enc Tryz.prog W base sp held 26 v d p) :
    ∃ (q : SchV) (S : Sch), v = .agg #[.slice q.oc S.cols.length q.cc, .slice q.ok S.key.length q.ck, .slice q.ou S.uqs.length q.cu] ∧ SchIn W q S ∧ S.cols.length ≤ 9223372036854775807 ∧ S.key.length ≤ 9223372036854775807 ∧ S.uqs.length ≤ 9223372036854775807 ∧ (∀ c ∈ S.cols, c.n.size ≤ 9223372036854775807) ∧ (∀ l ∈ S.uqs, l.length ≤ 9223372036854775807) := by
  obtain ⟨v0, v1, v2, y0, y1, y2, n, rfl, _, _, h0, h1, h2⟩ := open_agg3 Tryz.underlying26 (by kernel_rfl) cSch hv h
  obtain ⟨oc, cc, cols, e0, i0, l0, m0, s0⟩ := cols_cells h0
  obtain ⟨ok, ck, key, e1, i1, l1, m1, _⟩ := ints_cells h1
  obtain ⟨ou, cu, uqs, e2, i2, l2, m2, s2⟩ := sets_cells h2
  simp only [List.cons.injEq, and_true] at e0 e1 e2
  subst e0 e1 e2
  exact ⟨⟨oc, cc, ok, ck, ou, cu⟩, ⟨cols, key, uqs⟩, rfl, ⟨i0, i1, i2, l1⟩, by show cols.length ≤ _; omega, by show key.length ≤ _; omega, by show uqs.length ≤ _; omega, s0, s2⟩
end
end Go.Proofs.YtocmjlnhcloccaaGreatDoor
