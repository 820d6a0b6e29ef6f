/-
  arguments opened.
-/
import Derived.Test.YtcedeipmboekaaaGreatDoorTie
import Derived.Test.YtcedeipmboekaaaGreatDoorCards
import Derived.Test.YtcedeipmboekaaaGreatDoorKWorks
import Derived.ProofKit
import Derived.OpenShut
import Derived.Deep.DeepHandedRow
import Derived.LaidHandle
import Derived.LaidLaws
import Derived.SevenTiedAt
import Derived.Lib.SmallJoins
import Derived.Deep.Slices
import Derived.Deep.Fields
import Derived.ChangeSame
import Derived.ChangeMaps5
import Derived.Carry
namespace Go.Proofs.YtcedeipmboekaaaGreatDoor
open Go.ChangeShapes Go.WideShapes Go.ChangeAt Go.RowKit

def laidAll : List (String × DataW Unit) := [("math/bits.deBruijn32tab", Rows.laid_math_bits_deBruijn32tab), ("math/bits.deBruijn64tab", Rows.laid_math_bits_deBruijn64tab), ("internal/strconv.uint64pow10", Rows.laid_internal_strconv_uint64pow10), ("errors.errorType", Rows.laid_errors_errorType)]
theorem ownNone : ownKnob Tryz.prog.godebug = none := by kernel_rfl
theorem gET : Tryz.prog.globalNamed "errors.errorType" = some 0 := by kernel_rfl
theorem rtIs : (Tryz.prog.cutTypes.find? (·.1 == "internal/reflectlite.rtype")).map (·.2) = some 146 := by kernel_rfl
theorem oneRow : ((List.range Tryz.prog.types.size).filter fun t => Tryz.prog.rowNamed t [101, 114, 114, 111, 114]) = [81] := by kernel_rfl

theorem hasET_of {W : World} (h : laidMetH Tryz.prog laidAll W) : HasET W := by
  have h' : laidMet Tryz.prog (laidAll.filter fun x => x.2.handleName?.isNone) W ∧ handlesMet Tryz.prog [("errors.errorType", Rows.laid_errors_errorType)] W := h
  obtain ⟨name, u, ty, e1, e2, e3, e4, e5⟩ := h'.2 _ (List.mem_singleton.2 rfl)
  have en : name = [101, 114, 114, 111, 114] := (Option.some.inj e1).symm
  subst en
  obtain rfl := Option.some.inj (rtIs.symm.trans e2)
  have hm : ty ∈ (List.range Tryz.prog.types.size).filter fun t => Tryz.prog.rowNamed t [101, 114, 114, 111, 114] := List.mem_filter.2 ⟨List.mem_range.2 e3, e4⟩
  rw [oneRow] at hm
  obtain rfl := List.mem_singleton.1 hm
  have hh : typeHandle Tryz.prog 81 = .pointer (some ⟨5, 81, none⟩) := by kernel_rfl
  rw [hh] at e5
  unfold HasET
  simpa using World.var?_cell gET e5 0

def litsOf : DataW Unit → Array Value
  | .agg l => (l.map fun | .lit (.int k n) => Value.int k n | _ => .nilIface).toArray
  | _ => #[]
def layCells (c : Array Value) : Obj → Obj
  | .cells _ t frozen => .cells c t frozen
  | o => o
noncomputable def laidWorld (os : Os) : World :=
  { World.holding Tryz.prog os ⟨#[], #[], []⟩ with heap := ((((World.holding Tryz.prog os ⟨#[], #[], []⟩).heap.modify 0 (layCells #[.iface 146 (.agg #[.pointer (some ⟨5, 81, none⟩)])])).modify 1 (layCells (litsOf Rows.laid_internal_strconv_uint64pow10))).modify 2 (layCells (litsOf Rows.laid_math_bits_deBruijn32tab))).modify 3 (layCells (litsOf Rows.laid_math_bits_deBruijn64tab)) }
set_option maxRecDepth 100000 in
theorem laidWorld_met (os : Os) (args : Array Value) : laidMetH Tryz.prog laidAll ((laidWorld os).forCall (fun _ _ => 0) ⟨#[], args, []⟩).memory :=
  laidMetH_of_parts (laidMet_of_run' 8 (by kernel_rfl) (by kernel_rfl)) (by kernel_rfl)
end Go.Proofs.YtcedeipmboekaaaGreatDoor
namespace Go.Proofs.YtcedeipmboekaaaGreatDoor
open Go.Joins Go.ChangeShapes Go.WideShapes Go.ChangeAt Go.RowKit Go.Deep

theorem laidOut : laidOutB Tryz.prog = true := by kernel_rfl
theorem cVal : Tryz.prog.cellsOf 42 = 4 := by kernel_rfl

section
variable {H : Type} {enc : TypeId × Value → H}

theorem trodAll_below {W W' : World} (hb : Below W.heap.size W W') : ∀ {ts : List TypeId} {vs : List Value} {ds : List (DataW H)} {ps : List MemPlace}, (∀ t ∈ ts, Tryz.prog.readableRec t = true ∧ t < Tryz.prog.types.size) → DataW.TrodAll enc Tryz.prog W 0 (fun _ => true) true ts vs ds ps → (∀ x ∈ ps, x.block < W.heap.size) → DataW.TrodAll enc Tryz.prog W' 0 (fun b => decide (b < W.heap.size)) true ts vs ds ps
  | [], [], [], _, _, h, _ => h
  | _ :: _, _ :: _, _ :: _, _, hT, ⟨p, q, h1, h2, e⟩, hs => ⟨p, q, Below.trod laidOut (hT _ (List.mem_cons_self ..)).1 (hT _ (List.mem_cons_self ..)).2 h1 hb (fun x hx => hs x (by rw [e]; exact List.mem_append_left _ hx)), trodAll_below hb (fun t ht => hT t (List.mem_cons_of_mem _ ht)) h2 (fun x hx => hs x (by rw [e]; exact List.mem_append_right _ hx)), e⟩

/-- True is told, and what came in reads as it did. -/
theorem post_true {f : Func} {s : ChangeSpec} {W W' : World} {args : Array Value} {ds : List (DataW H)} {gs : List (DataW H)} {before : List MemPlace} (hv : s.vars = []) (hr : f.resultTypes = #[4])
    (hps : ∀ t ∈ f.params.toList, Tryz.prog.readableRec t = true ∧ t < Tryz.prog.types.size)
    (hW : DataW.Whole enc Tryz.prog f.params.toList s.vars false W args.toList ds gs before) (hb : Below W.heap.size W W')
    (hf : s.fn H (ds ++ gs) = { results := [.lit (.bool true)], args := ds }) :
    s.post enc Tryz.prog f false true false false W args (.bool true) W' := by
  have hW' := hW
  obtain ⟨p, q, hA0, hV, rfl, hfz, hnd⟩ := hW
  rw [hv] at hV
  obtain ⟨rfl, rfl⟩ := trodVars_none hV
  refine ⟨_, _, _, [], p ++ [], [], hW', ?_, ?_, ?_, hb.frame _, fun h => by cases h⟩
  · rw [hf, hr]
    exact trodAll_cons_mk (shut_bool Tryz.underlying4 _) trodAll_mk0
  · rw [hf]
    simp only [List.append_nil]
    exact trodAll_below hb hps hA0 (fun x hx => by simpa using hW'.lt x (List.mem_append_left _ hx))
  · rw [hf, hv]
    rfl

theorem add_one (a : Addr) (n f : Nat) (hf : f ≠ 0) : (a.add n).add f = ⟨(a.add n).block, (a.add n).off + f, none⟩ := by
  generalize a.add n = c
  unfold Addr.add
  rw [if_neg hf]
theorem pick_list' {α : Type} {p : Nat → α → Prop} : ∀ (n : Nat), (∀ i, i < n → ∃ v, p i v) → ∃ l : List α, l.length = n ∧ ∀ (i : Nat) (h : i < l.length), p i l[i]
  | 0, _ => ⟨[], rfl, fun i h => absurd h (Nat.not_lt_zero i)⟩
  | n + 1, h => by
    obtain ⟨l, hl, hp⟩ := pick_list' n (fun i hi => h i (by omega))
    obtain ⟨v, hv⟩ := h n (by omega)
    refine ⟨l ++ [v], by simp [hl], fun i hi => ?_⟩
    by_cases hlt : i < l.length
    · rw [List.getElem_append_left hlt]
      exact hp i hlt
    · have : i = n := by simp at hi; omega
      subst this
      rw [List.getElem_append_right (by omega)]
      simpa [hl] using hv
set_option maxRecDepth 100000 in
theorem cells_val6 {W : World} {sp : Nat → Bool} {base : Nat} {held : Bool} {a : Addr} {i : Nat} {cs : List Value} {n : Nat} {x : DataW H × List MemPlace}
    (hc : W.cells? base (a.add (i * Tryz.prog.cellsOf 42)) (Tryz.prog.cellsOf 42) = some cs) (h : DataW.trod enc Tryz.prog W base sp held n 42 cs = some x) :
    ∃ v : Vl, ValAt W (a.add (i * 4)) v ∧ v.s.size ≤ 9223372036854775807 ∧ (Lit.int .i64 v.i).wf = true ∧ (Lit.int .u64 v.u).wf = true := by
  rw [cVal] at hc
  obtain ⟨_, hl, hat⟩ := World.cells?_some hc
  obtain ⟨y0, y1, y2, y3, m, _, _, h0, h1, h2, h3⟩ := trod_struct4 Tryz.underlying42 h
  obtain ⟨c0, c1, c2, c3, rfl⟩ : ∃ c0 c1 c2 c3, cs = [c0, c1, c2, c3] := by
    match cs, hl with
    | [c0, c1, c2, c3], _ => exact ⟨c0, c1, c2, c3, rfl⟩
  rw [show Tryz.prog.cellsOf 39 = 1 by kernel_rfl] at h0
  rw [show Tryz.prog.cellsOf 2 = 1 by kernel_rfl] at h1
  rw [show Tryz.prog.cellsOf 40 = 1 by kernel_rfl] at h2
  rw [show Tryz.prog.cellsOf 9 = 1 by kernel_rfl] at h3
  obtain ⟨k, e0, _, _⟩ := DataW.trod_int Tryz.underlying39 h0
  obtain ⟨u1, e1, _, wf1⟩ := DataW.trod_int Tryz.underlying2 h1
  obtain ⟨u2, e2, _, wf⟩ := DataW.trod_int Tryz.underlying40 h2
  obtain ⟨s, e3, _, hs⟩ := DataW.trod_string Tryz.underlying9 h3
  simp at e0 e1 e2 e3
  subst e0 e1 e2 e3
  refine ⟨⟨k, u1, u2, s⟩, ⟨?_, ?_, ?_, ?_⟩, hs, wf1, wf⟩
  · exact hat 0 (by omega)
  · rw [← add_one _ _ 1 (by omega)]; exact hat 1 (by omega)
  · rw [← add_one _ _ 2 (by omega)]; exact hat 2 (by omega)
  · rw [← add_one _ _ 3 (by omega)]; exact hat 3 (by omega)
theorem vals_cells6 {W : World} {sp : Nat → Bool} {base : Nat} {held : Bool} {fuel : Nat} {cs : List Value} {x : DataW H × List MemPlace} (hf : DataW.trod enc Tryz.prog W base sp held fuel 22 cs = some x) :
    ∃ oa cap, ∃ l : List Vl, cs = [.slice oa l.length cap] ∧ SliceOf W (.slice oa l.length cap) l ∧ l.length ≤ cap ∧ cap ≤ 9223372036854775807 ∧ ∀ y ∈ l, y.s.size ≤ 9223372036854775807 ∧ (Lit.int .i64 y.i).wf = true ∧ (Lit.int .u64 y.u).wf = true := by
  rcases open_slice Tryz.underlying22 hf with ⟨rfl, _⟩ | ⟨a, len, cap, m, n, D, Pl, rfl, _, hl, hm, hmm, _, hi⟩
  · exact ⟨none, 0, [], rfl, .inl ⟨rfl, rfl⟩, Nat.le_refl _, by omega, fun _ h => by cases h⟩
  · have hlm : len ≤ m := by rw [hmm]; split <;> omega
    obtain ⟨l, hll, hp⟩ := pick_list' (p := fun i (y : Vl) => (ValAt W (a.add (i * 4)) y) ∧ y.s.size ≤ 9223372036854775807 ∧ (Lit.int .i64 y.i).wf = true ∧ (Lit.int .u64 y.u).wf = true) len (fun i hi' => by
      obtain ⟨cs, hc, ht⟩ := hi i (by omega)
      exact cells_val6 hc ht)
    subst hll
    refine ⟨some a, cap, l, rfl, .inr ⟨a, cap, rfl, hl, fun j hj => (hp j hj).1⟩, hl, by unfold maxLen at hm; omega, fun y hy => ?_⟩
    obtain ⟨j, hj, rfl⟩ := List.getElem_of_mem hy
    exact (hp j hj).2
set_option maxRecDepth 100000 in
theorem open_vals6 {W : World} {b : Nat} {v : Value} {d : DataW H} {p : List MemPlace} {sp : Nat → Bool} {base : Nat} {held : Bool}
    (hv : Value.okWide Tryz.prog W .any b 22 v) (h : DataW.Trod enc Tryz.prog W base sp held 22 v d p) :
    ∃ oa cap, ∃ l : List Vl, v = .slice oa l.length cap ∧ SliceOf W (.slice oa l.length cap) l ∧ l.length ≤ cap ∧ cap ≤ 9223372036854775807 ∧ ∀ y ∈ l, y.s.size ≤ 9223372036854775807 ∧ (Lit.int .i64 y.i).wf = true ∧ (Lit.int .u64 y.u).wf = true := by
  obtain ⟨a0, len0, cap0, rfl⟩ := okWide_slice Tryz.underlying22 hv
  obtain ⟨fuel, hf⟩ := h
  obtain ⟨oa, cap, l, e, r⟩ := vals_cells6 hf
  simp [Value.cells] at e
  obtain ⟨rfl, rfl, rfl⟩ := e
  exact ⟨_, _, l, rfl, r⟩
theorem inN_of {v : Vl} (w1 : (Lit.int .i64 v.i).wf = true) (w2 : (Lit.int .u64 v.u).wf = true) : InN v := by
  have e1 : IntKind.i64.min = -9223372036854775808 := rfl
  have e2 : IntKind.i64.max = 9223372036854775807 := rfl
  have e3 : IntKind.u64.min = 0 := rfl
  have e4 : IntKind.u64.max = 18446744073709551615 := rfl
  simp [Lit.wf, e1, e2, e3, e4] at w1 w2
  exact ⟨w1.1, w1.2, w2.1, by omega⟩
set_option maxRecDepth 100000 in
theorem open_str {W : World} {b : Nat} {v : Value} {d : DataW H} {p : List MemPlace} {sp : Nat → Bool} {base : Nat} {held : Bool}
    (hv : Value.okWide Tryz.prog W .any b 9 v) (h : DataW.Trod enc Tryz.prog W base sp held 9 v d p) :
    ∃ s : ByteArray, v = .string s ∧ s.size ≤ 9223372036854775807 := by
  obtain ⟨s, rfl, _, _, hs⟩ := Go.ChangeMaps.open_string Tryz.underlying9 hv h
  exact ⟨s, rfl, hs⟩
set_option maxRecDepth 100000 in
theorem open_i64 {W : World} {b : Nat} {v : Value} {d : DataW H} {p : List MemPlace} {sp : Nat → Bool} {base : Nat} {held : Bool}
    (hv : Value.okWide Tryz.prog W .any b 3 v) (h : DataW.Trod enc Tryz.prog W base sp held 3 v d p) : ∃ n : Int, v = .int .i64 n ∧ -9223372036854775808 ≤ n ∧ n ≤ 9223372036854775807 := by
  obtain ⟨k, rfl, _, _, w0⟩ := open_int Tryz.underlying3 hv h
  have e1 : IntKind.i64.min = -9223372036854775808 := rfl
  have e2 : IntKind.i64.max = 9223372036854775807 := rfl
  simp [Lit.wf, e1, e2] at w0
  exact ⟨k, rfl, w0.1, w0.2⟩

end
end Go.Proofs.YtcedeipmboekaaaGreatDoor
