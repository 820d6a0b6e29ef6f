/-
  Arguments opened to values and lists of values; what is read stays.
-/
import Derived.Test.YtifmfcaaofiboaaGreatDoorLaid
import Derived.Test.YtifmfcaaofiboaaGreatDoorFew
import Derived.Lib.SmallJoins
import Derived.Deep.Slices
import Derived.Deep.Fields
import Derived.ChangeSame
import Derived.Carry
namespace Go.Proofs.YtifmfcaaofiboaaGreatDoor
open Go.Joins Go.ChangeShapes Go.WideShapes Go.ChangeAt Go.RowKit Go.Deep

theorem laidOut : laidOutB Tryz.prog = true := by kernel_rfl
theorem cVal : Tryz.prog.cellsOf 25 = 4 := by kernel_rfl

section
variable {H : Type} {enc : TypeId × Value → H}

theorem trodAll_below {W W' : World} (hb : Below W.heap.size W W') : ∀ {ts : List TypeId} {vs : List Value} {ds : List (DataW H)} {ps : List MemPlace}, (∀ t ∈ ts, Tryz.prog.readableRec t = true ∧ t < Tryz.prog.types.size) → DataW.TrodAll enc Tryz.prog W 0 (fun _ => true) true ts vs ds ps → (∀ x ∈ ps, x.block < W.heap.size) → DataW.TrodAll enc Tryz.prog W' 0 (fun b => decide (b < W.heap.size)) true ts vs ds ps
  | [], [], [], _, _, h, _ => h
  | _ :: _, _ :: _, _ :: _, _, hT, ⟨p, q, h1, h2, e⟩, hs => ⟨p, q, Below.trod laidOut (hT _ (List.mem_cons_self ..)).1 (hT _ (List.mem_cons_self ..)).2 h1 hb (fun x hx => hs x (by rw [e]; exact List.mem_append_left _ hx)), trodAll_below hb (fun t ht => hT t (List.mem_cons_of_mem _ ht)) h2 (fun x hx => hs x (by rw [e]; exact List.mem_append_right _ hx)), e⟩

/-- True is told, and what came in reads as it did. -/
theorem post_true {f : Func} {s : ChangeSpec} {W W' : World} {args : Array Value} {ds : List (DataW H)} {gs : List (DataW H)} {before : List MemPlace} (hv : s.vars = []) (hr : f.resultTypes = #[4])
    (hps : ∀ t ∈ f.params.toList, Tryz.prog.readableRec t = true ∧ t < Tryz.prog.types.size)
    (hW : DataW.Whole enc Tryz.prog f.params.toList s.vars false W args.toList ds gs before) (hb : Below W.heap.size W W')
    (hf : s.fn H (ds ++ gs) = { results := [.lit (.bool true)], args := ds }) :
    s.post enc Tryz.prog f false true false false W args (.bool true) W' := by
  have hW' := hW
  obtain ⟨p, q, hA0, hV, rfl, hfz, hnd⟩ := hW
  rw [hv] at hV
  obtain ⟨rfl, rfl⟩ := trodVars_none hV
  refine ⟨_, _, _, [], p ++ [], [], hW', ?_, ?_, ?_, hb.frame _, fun h => by cases h⟩
  · rw [hf, hr]
    exact trodAll_cons_mk (shut_bool Tryz.underlying4 _) trodAll_mk0
  · rw [hf]
    simp only [List.append_nil]
    exact trodAll_below hb hps hA0 (fun x hx => by simpa using hW'.lt x (List.mem_append_left _ hx))
  · rw [hf, hv]
    rfl

set_option maxRecDepth 100000 in
theorem open_val {W : World} {b : Nat} {v : Value} {d : DataW H} {p : List MemPlace} {sp : Nat → Bool} {base : Nat} {held : Bool}
    (hv : Value.okWide Tryz.prog W .any b 25 v) (h : DataW.Trod enc Tryz.prog W base sp held 25 v d p) :
    ∃ x : Vl, v = x.val ∧ (Lit.int .i64 x.i).wf = true ∧ (Lit.int .u64 x.u).wf = true := by
  obtain ⟨v0, v1, v2, v3, y0, y1, y2, y3, n, rfl, _, _, h0, h1, h2, h3⟩ := open_agg4 Tryz.underlying25 (by kernel_rfl) cVal hv h
  obtain ⟨k, e0, _, _⟩ := DataW.trod_int Tryz.underlying22 h0
  obtain ⟨i, e1, _, w1⟩ := DataW.trod_int Tryz.underlying2 h1
  obtain ⟨u, e2, _, w2⟩ := DataW.trod_int Tryz.underlying23 h2
  obtain ⟨s, e3, _, _⟩ := DataW.trod_string Tryz.underlying9 h3
  simp only [List.cons.injEq, and_true] at e0 e1 e2 e3
  subst e0 e1 e2 e3
  exact ⟨⟨k, i, u, s⟩, rfl, w1, w2⟩

theorem pick_list {α : Type} {p : Nat → α → Prop} : ∀ (n : Nat), (∀ i, i < n → ∃ v, p i v) → ∃ l : List α, l.length = n ∧ ∀ (i : Nat) (h : i < l.length), p i l[i]
  | 0, _ => ⟨[], rfl, fun i h => absurd h (Nat.not_lt_zero i)⟩
  | n + 1, h => by
    obtain ⟨l, hl, hp⟩ := pick_list n (fun i hi => h i (by omega))
    obtain ⟨v, hv⟩ := h n (by omega)
    refine ⟨l ++ [v], by simp [hl], fun i hi => ?_⟩
    by_cases hlt : i < l.length
    · rw [List.getElem_append_left hlt]
      exact hp i hlt
    · have : i = n := by simp at hi; omega
      subst this
      rw [List.getElem_append_right (by omega)]
      simpa [hl] using hv
theorem add_one (a : Addr) (n f : Nat) (hf : f ≠ 0) : (a.add n).add f = ⟨(a.add n).block, (a.add n).off + f, none⟩ := by
  generalize a.add n = c
  unfold Addr.add
  rw [if_neg hf]

set_option maxRecDepth 100000 in
theorem open_cells {W : World} {sp : Nat → Bool} {base : Nat} {held : Bool} {a : Addr} {i : Nat} {cs : List Value} {n : Nat} {x : DataW H × List MemPlace}
    (hc : W.cells? base (a.add (i * Tryz.prog.cellsOf 25)) (Tryz.prog.cellsOf 25) = some cs) (h : DataW.trod enc Tryz.prog W base sp held n 25 cs = some x) :
    ∃ v : Vl, ValAt W (a.add (i * 4)) v ∧ (Lit.int .i64 v.i).wf = true ∧ (Lit.int .u64 v.u).wf = true := by
  rw [cVal] at hc
  obtain ⟨_, hl, hat⟩ := World.cells?_some hc
  obtain ⟨y0, y1, y2, y3, m, _, _, h0, h1, h2, h3⟩ := trod_struct4 Tryz.underlying25 h
  obtain ⟨c0, c1, c2, c3, rfl⟩ : ∃ c0 c1 c2 c3, cs = [c0, c1, c2, c3] := by
    match cs, hl with
    | [c0, c1, c2, c3], _ => exact ⟨c0, c1, c2, c3, rfl⟩
  rw [show Tryz.prog.cellsOf 22 = 1 by kernel_rfl] at h0
  rw [show Tryz.prog.cellsOf 2 = 1 by kernel_rfl] at h1
  rw [show Tryz.prog.cellsOf 23 = 1 by kernel_rfl] at h2
  rw [show Tryz.prog.cellsOf 9 = 1 by kernel_rfl] at h3
  obtain ⟨k, e0, _, _⟩ := DataW.trod_int Tryz.underlying22 h0
  obtain ⟨u1, e1, _, w1⟩ := DataW.trod_int Tryz.underlying2 h1
  obtain ⟨u2, e2, _, w2⟩ := DataW.trod_int Tryz.underlying23 h2
  obtain ⟨s, e3, _, _⟩ := DataW.trod_string Tryz.underlying9 h3
  simp at e0 e1 e2 e3
  subst e0 e1 e2 e3
  refine ⟨⟨k, u1, u2, s⟩, ⟨?_, ?_, ?_, ?_⟩, w1, w2⟩
  · exact hat 0 (by omega)
  · rw [← add_one _ _ 1 (by omega)]; exact hat 1 (by omega)
  · rw [← add_one _ _ 2 (by omega)]; exact hat 2 (by omega)
  · rw [← add_one _ _ 3 (by omega)]; exact hat 3 (by omega)

set_option maxRecDepth 100000 in
theorem open_vals {W : World} {b : Nat} {v : Value} {d : DataW H} {p : List MemPlace} {sp : Nat → Bool} {base : Nat} {held : Bool}
    (hv : Value.okWide Tryz.prog W .any b 26 v) (h : DataW.Trod enc Tryz.prog W base sp held 26 v d p) :
    ∃ l : List Vl, SliceOf W v l ∧ l.length ≤ 9223372036854775807 ∧ ∀ x ∈ l, (Lit.int .i64 x.i).wf = true ∧ (Lit.int .u64 x.u).wf = true := by
  obtain ⟨a0, len0, cap0, rfl⟩ := okWide_slice Tryz.underlying26 hv
  obtain ⟨fuel, hf⟩ := h
  rcases open_slice Tryz.underlying26 hf with ⟨hcs, _⟩ | ⟨a, len, cap, m, n, D, Pl, hcs, _, hl, hm, hmm, _, hi⟩
  · simp [Value.cells] at hcs
    obtain ⟨rfl, rfl, rfl⟩ := hcs
    exact ⟨[], .inl ⟨rfl, rfl⟩, by simp, fun x hx => by cases hx⟩
  · simp [Value.cells] at hcs
    obtain ⟨rfl, rfl, rfl⟩ := hcs
    have hlm : len0 ≤ m := by rw [hmm]; split <;> omega
    obtain ⟨l, hll, hp⟩ := pick_list (p := fun i (v : Vl) => ValAt W (a.add (i * 4)) v ∧ (Lit.int .i64 v.i).wf = true ∧ (Lit.int .u64 v.u).wf = true) len0 (fun i hi' => by
      obtain ⟨cs, hc, ht⟩ := hi i (by omega)
      exact open_cells hc ht)
    subst hll
    refine ⟨l, .inr ⟨a, cap0, rfl, hl, fun j hj => (hp j hj).1⟩, by unfold maxLen at hm; omega, fun x hx => ?_⟩
    obtain ⟨j, hj, rfl⟩ := List.getElem_of_mem hx
    exact (hp j hj).2
end
end Go.Proofs.YtifmfcaaofiboaaGreatDoor
