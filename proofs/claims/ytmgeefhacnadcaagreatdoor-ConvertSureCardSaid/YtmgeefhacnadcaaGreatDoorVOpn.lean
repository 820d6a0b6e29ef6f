/-
  arguments opened.
-/
import Derived.Test.YtmgeefhacnadcaaGreatDoorTie
import Derived.Test.YtmgeefhacnadcaaGreatDoorCards
import Derived.Test.YtmgeefhacnadcaaGreatDoorVEnv
import Derived.ProofKit
import Derived.OpenShut
import Derived.Deep.DeepHandedRow
import Derived.Lib.LaidTab
import Derived.Lib.LaidU8
import Derived.LaidHandle
import Derived.Stop.LaidErr
import Derived.LaidLaws
import Derived.SevenTiedAt
import Derived.Test.YtmgeefhacnadcaaGreatDoorVBet0
import Derived.Lib.SmallJoins
import Derived.Deep.Slices
import Derived.Deep.Fields
import Derived.ChangeSame
import Derived.Carry
import Derived.Test.YtmgeefhacnadcaaGreatDoorSSch
namespace Go.Proofs.YtmgeefhacnadcaaGreatDoor
open Go.ChangeShapes Go.WideShapes Go.ChangeAt Go.RowKit

def laidAll : List (String × DataW Unit) := [("math/bits.deBruijn32tab", Rows.laid_math_bits_deBruijn32tab), ("math/bits.deBruijn64tab", Rows.laid_math_bits_deBruijn64tab), ("internal/strconv.uint64pow10", Rows.laid_internal_strconv_uint64pow10), ("errors.errorType", Rows.laid_errors_errorType), ("strconv.ErrRange", Rows.laid_strconv_ErrRange), ("strconv.ErrSyntax", Rows.laid_strconv_ErrSyntax)]
theorem ownNone : ownKnob Tryz.prog.godebug = none := by kernel_rfl
theorem gET : Tryz.prog.globalNamed "errors.errorType" = some 0 := by kernel_rfl
theorem gP10 : Tryz.prog.globalNamed "internal/strconv.uint64pow10" = some 1 := by kernel_rfl
theorem rtIs : (Tryz.prog.cutTypes.find? (·.1 == "internal/reflectlite.rtype")).map (·.2) = some 156 := by kernel_rfl
theorem oneRow : ((List.range Tryz.prog.types.size).filter fun t => Tryz.prog.rowNamed t [101, 114, 114, 111, 114]) = [66] := by kernel_rfl

theorem hasET_of {W : World} (h : laidMetH Tryz.prog laidAll W) : HasET W := by
  have h' : laidMet Tryz.prog (laidAll.filter fun x => x.2.handleName?.isNone) W ∧ handlesMet Tryz.prog [("errors.errorType", Rows.laid_errors_errorType)] W := h
  obtain ⟨name, u, ty, e1, e2, e3, e4, e5⟩ := h'.2 _ (List.mem_singleton.2 rfl)
  have en : name = [101, 114, 114, 111, 114] := (Option.some.inj e1).symm
  subst en
  obtain rfl := Option.some.inj (rtIs.symm.trans e2)
  have hm : ty ∈ (List.range Tryz.prog.types.size).filter fun t => Tryz.prog.rowNamed t [101, 114, 114, 111, 114] := List.mem_filter.2 ⟨List.mem_range.2 e3, e4⟩
  rw [oneRow] at hm
  obtain rfl := List.mem_singleton.1 hm
  have hh : typeHandle Tryz.prog 66 = .pointer (some ⟨7, 66, none⟩) := by kernel_rfl
  rw [hh] at e5
  unfold HasET
  simpa using World.var?_cell gET e5 0

theorem gP10t : (Tryz.prog.globals[1]?).map (·.type) = some 186 := by kernel_rfl
theorem cP10 : Tryz.prog.cellsOf 186 = 20 := by kernel_rfl
theorem cU64 : Tryz.prog.cellsOf 26 = 1 := by kernel_rfl
theorem hasTab_of {W : World} (h : laidMetH Tryz.prog laidAll W) : HasTab W := by
  have h' : laidMet Tryz.prog [("math/bits.deBruijn32tab", Rows.laid_math_bits_deBruijn32tab), ("math/bits.deBruijn64tab", Rows.laid_math_bits_deBruijn64tab), ("internal/strconv.uint64pow10", Rows.laid_internal_strconv_uint64pow10), ("strconv.ErrRange", Rows.laid_strconv_ErrRange), ("strconv.ErrSyntax", Rows.laid_strconv_ErrSyntax)] W ∧ handlesMet Tryz.prog [("errors.errorType", Rows.laid_errors_errorType)] W := h
  obtain ⟨g', t', cs, fuel, p, hg', ht', hvar, hd⟩ := Lib.laidMet.reads h'.1 (.tail _ (.tail _ (.head _)))
  obtain rfl := Option.some.inj (gP10.symm.trans hg')
  obtain rfl := Option.some.inj (gP10t.symm.trans ht')
  unfold HasTab Lib.TabIs
  rw [hvar, ← Lib.cells_of_tab Tryz.underlying186 Tryz.underlying26 cU64 cP10 hd]

theorem gER : Tryz.prog.globalNamed "strconv.ErrRange" = some 3 := by kernel_rfl
theorem gERType : (Tryz.prog.globals[3]?).map (·.type) = some 66 := by kernel_rfl
theorem gES : Tryz.prog.globalNamed "strconv.ErrSyntax" = some 2 := by kernel_rfl
theorem gESType : (Tryz.prog.globals[2]?).map (·.type) = some 66 := by kernel_rfl
theorem starES : "*" ++ "errors.errorString" = "*errors.errorString" := by decide
theorem rowES (u : TypeId) (h : Tryz.prog.typeName? 3 u = some "*errors.errorString") : u = 211 :=
  typeName_ptr_named (nm := "errors.errorString") (by rw [starES]; kernel_rfl) (by kernel_rfl) (by decide) u (by rw [starES]; exact h)
theorem cellsES : Tryz.prog.cellsOf 213 = 1 := by kernel_rfl
theorem cellsStr : Tryz.prog.cellsOf 9 = 1 := by kernel_rfl
theorem env_of {W : World} (h : laidMetH Tryz.prog laidAll W) : Env W := by
  have h' : laidMet Tryz.prog [("math/bits.deBruijn32tab", Rows.laid_math_bits_deBruijn32tab), ("math/bits.deBruijn64tab", Rows.laid_math_bits_deBruijn64tab), ("internal/strconv.uint64pow10", Rows.laid_internal_strconv_uint64pow10), ("strconv.ErrRange", Rows.laid_strconv_ErrRange), ("strconv.ErrSyntax", Rows.laid_strconv_ErrSyntax)] W ∧ handlesMet Tryz.prog [("errors.errorType", Rows.laid_errors_errorType)] W := h
  have h3 := h'.1.tail.tail.tail
  obtain ⟨a0, s0, hv0, -, -, -⟩ := laid_sentinel h3 gER gERType Tryz.underlying66 rowES Tryz.underlying211 Tryz.underlying213 rfl rfl Tryz.underlying9 cellsES cellsStr
  obtain ⟨a1, s1, hv1, -, -, -⟩ := laid_sentinel h3.tail gES gESType Tryz.underlying66 rowES Tryz.underlying211 Tryz.underlying213 rfl rfl Tryz.underlying9 cellsES cellsStr
  exact ⟨hasET_of h, hasTab_of h, ⟨_, _, by have h0 := World.var?_cell gES hv1 0; simpa using h0⟩, ⟨_, _, by have h0 := World.var?_cell gER hv0 0; simpa using h0⟩⟩

def litsOf : DataW Unit → Array Value
  | .agg l => (l.map fun | .lit (.int k n) => Value.int k n | _ => .nilIface).toArray
  | _ => #[]
def layCells (c : Array Value) : Obj → Obj
  | .cells _ t frozen => .cells c t frozen
  | o => o
abbrev synS : ByteArray := { data := #[105, 110, 118, 97, 108, 105, 100, 32, 115, 121, 110, 116, 97, 120] }
abbrev rngS : ByteArray := { data := #[118, 97, 108, 117, 101, 32, 111, 117, 116, 32, 111, 102, 32, 114, 97, 110, 103, 101] }
/-- so many blocks has the settled world -/
noncomputable def low : Nat := (World.holding Tryz.prog default ⟨#[], #[], []⟩).heap.size
noncomputable def laidWorld (os : Os) : World :=
  { World.holding Tryz.prog os ⟨#[.cells #[.string rngS] 213, .cells #[.string synS] 213], #[], []⟩ with heap := ((((((World.holding Tryz.prog os ⟨#[.cells #[.string rngS] 213, .cells #[.string synS] 213], #[], []⟩).heap.modify 3 (layCells #[.iface 211 (.pointer (some ⟨low, 0, none⟩))])).modify 2 (layCells #[.iface 211 (.pointer (some ⟨low + 1, 0, none⟩))])).modify 0 (layCells #[.iface 156 (.agg #[.pointer (some ⟨7, 66, none⟩)])])).modify 1 (layCells (litsOf Rows.laid_internal_strconv_uint64pow10))).modify 4 (layCells (litsOf Rows.laid_math_bits_deBruijn32tab))).modify 5 (layCells (litsOf Rows.laid_math_bits_deBruijn64tab)) }
set_option maxRecDepth 100000 in
theorem laidWorld_met (os : Os) (args : Array Value) : laidMetH Tryz.prog laidAll ((laidWorld os).forCall (fun _ _ => 0) ⟨#[], args, []⟩).memory :=
  laidMetH_of_parts (laidMet_of_run' 8 (by kernel_rfl) (by kernel_rfl)) (by kernel_rfl)
end Go.Proofs.YtmgeefhacnadcaaGreatDoor
namespace Go.Proofs.YtmgeefhacnadcaaGreatDoor
open Go.Joins Go.ChangeShapes Go.WideShapes Go.ChangeAt Go.RowKit Go.Deep

theorem laidOut : laidOutB Tryz.prog = true := by kernel_rfl
theorem cVal : Tryz.prog.cellsOf 28 = 4 := by kernel_rfl

section
variable {H : Type} {enc : TypeId × Value → H}

theorem trodAll_below {W W' : World} (hb : Below W.heap.size W W') : ∀ {ts : List TypeId} {vs : List Value} {ds : List (DataW H)} {ps : List MemPlace}, (∀ t ∈ ts, Tryz.prog.readableRec t = true ∧ t < Tryz.prog.types.size) → DataW.TrodAll enc Tryz.prog W 0 (fun _ => true) true ts vs ds ps → (∀ x ∈ ps, x.block < W.heap.size) → DataW.TrodAll enc Tryz.prog W' 0 (fun b => decide (b < W.heap.size)) true ts vs ds ps
  | [], [], [], _, _, h, _ => h
  | _ :: _, _ :: _, _ :: _, _, hT, ⟨p, q, h1, h2, e⟩, hs => ⟨p, q, Below.trod laidOut (hT _ (List.mem_cons_self ..)).1 (hT _ (List.mem_cons_self ..)).2 h1 hb (fun x hx => hs x (by rw [e]; exact List.mem_append_left _ hx)), trodAll_below hb (fun t ht => hT t (List.mem_cons_of_mem _ ht)) h2 (fun x hx => hs x (by rw [e]; exact List.mem_append_right _ hx)), e⟩

/-- True is told, and what came in reads as it did. -/
theorem post_true {f : Func} {s : ChangeSpec} {W W' : World} {args : Array Value} {ds : List (DataW H)} {gs : List (DataW H)} {before : List MemPlace} (hv : s.vars = []) (hr : f.resultTypes = #[4])
    (hps : ∀ t ∈ f.params.toList, Tryz.prog.readableRec t = true ∧ t < Tryz.prog.types.size)
    (hW : DataW.Whole enc Tryz.prog f.params.toList s.vars false W args.toList ds gs before) (hb : Below W.heap.size W W')
    (hf : s.fn H (ds ++ gs) = { results := [.lit (.bool true)], args := ds }) :
    s.post enc Tryz.prog f false true false false W args (.bool true) W' := by
  have hW' := hW
  obtain ⟨p, q, hA0, hV, rfl, hfz, hnd⟩ := hW
  rw [hv] at hV
  obtain ⟨rfl, rfl⟩ := trodVars_none hV
  refine ⟨_, _, _, [], p ++ [], [], hW', ?_, ?_, ?_, hb.frame _, fun h => by cases h⟩
  · rw [hf, hr]
    exact trodAll_cons_mk (shut_bool Tryz.underlying4 _) trodAll_mk0
  · rw [hf]
    simp only [List.append_nil]
    exact trodAll_below hb hps hA0 (fun x hx => by simpa using hW'.lt x (List.mem_append_left _ hx))
  · rw [hf, hv]
    rfl

set_option maxRecDepth 100000 in
theorem open_val {W : World} {b : Nat} {v : Value} {d : DataW H} {p : List MemPlace} {sp : Nat → Bool} {base : Nat} {held : Bool}
    (hv : Value.okWide Tryz.prog W .any b 28 v) (h : DataW.Trod enc Tryz.prog W base sp held 28 v d p) :
    ∃ x : Vl, v = x.val ∧ x.s.size ≤ 9223372036854775807 ∧ (Lit.int .i64 x.i).wf = true ∧ (Lit.int .u64 x.u).wf = true := by
  obtain ⟨v0, v1, v2, v3, y0, y1, y2, y3, n, rfl, _, _, h0, h1, h2, h3⟩ := open_agg4 Tryz.underlying28 (by kernel_rfl) cVal hv h
  obtain ⟨k, e0, _, _⟩ := DataW.trod_int Tryz.underlying25 h0
  obtain ⟨i, e1, _, w1⟩ := DataW.trod_int Tryz.underlying2 h1
  obtain ⟨u, e2, _, w2⟩ := DataW.trod_int Tryz.underlying26 h2
  obtain ⟨s, e3, _, hs⟩ := DataW.trod_string Tryz.underlying9 h3
  simp only [List.cons.injEq, and_true] at e0 e1 e2 e3
  subst e0 e1 e2 e3
  exact ⟨⟨k, i, u, s⟩, rfl, hs, w1, w2⟩
theorem cCol : Tryz.prog.cellsOf 24 = 4 := by kernel_rfl
set_option maxRecDepth 100000 in
theorem open_col {W : World} {b : Nat} {v : Value} {d : DataW H} {p : List MemPlace} {sp : Nat → Bool} {base : Nat} {held : Bool}
    (hv : Value.okWide Tryz.prog W .any b 24 v) (h : DataW.Trod enc Tryz.prog W base sp held 24 v d p) :
    ∃ c : Col, v = c.val ∧ c.n.size ≤ 9223372036854775807 := by
  obtain ⟨v0, v1, v2, v3, y0, y1, y2, y3, n, rfl, _, _, h0, h1, h2, h3⟩ := open_agg4 Tryz.underlying24 (by kernel_rfl) cCol hv h
  obtain ⟨s, e0, _, hs⟩ := DataW.trod_string Tryz.underlying9 h0
  obtain ⟨i, e1, _, _⟩ := DataW.trod_int Tryz.underlying22 h1
  obtain ⟨z, e2, _, _⟩ := DataW.trod_int Tryz.underlying3 h2
  obtain ⟨u, e3, _⟩ := DataW.trod_bool Tryz.underlying4 h3
  simp only [List.cons.injEq, and_true] at e0 e1 e2 e3
  subst e0 e1 e2 e3
  exact ⟨⟨s, i, z, u⟩, rfl, hs⟩
theorem ok_of {x : Vl} (w1 : (Lit.int .i64 x.i).wf = true) (w2 : (Lit.int .u64 x.u).wf = true) (h : x.s.size ≤ 300) : x.ok := by
  have e1 : IntKind.i64.min = -9223372036854775808 := rfl
  have e2 : IntKind.i64.max = 9223372036854775807 := rfl
  have e3 : IntKind.u64.min = 0 := rfl
  have e4 : IntKind.u64.max = 18446744073709551615 := rfl
  simp [Lit.wf, e1, e2, e3, e4] at w1 w2
  exact ⟨w1.1, w1.2, w2.1, w2.2, h⟩
end
end Go.Proofs.YtmgeefhacnadcaaGreatDoor
namespace Go.Proofs.YtmgeefhacnadcaaGreatDoor
open Go.Joins Go.ChangeShapes Go.WideShapes Go.ChangeAt Go.RowKit Go.Deep

section
variable {H : Type} {enc : TypeId × Value → H}
theorem add_one (a : Addr) (n f : Nat) (hf : f ≠ 0) : (a.add n).add f = ⟨(a.add n).block, (a.add n).off + f, none⟩ := by
  generalize a.add n = c
  unfold Addr.add
  rw [if_neg hf]
set_option maxRecDepth 100000 in
theorem cells_col {W : World} {sp : Nat → Bool} {base : Nat} {held : Bool} {a : Addr} {i : Nat} {cs : List Value} {n : Nat} {x : DataW H × List MemPlace}
    (hc : W.cells? base (a.add (i * Tryz.prog.cellsOf 24)) (Tryz.prog.cellsOf 24) = some cs) (h : DataW.trod enc Tryz.prog W base sp held n 24 cs = some x) :
    ∃ c : Col, ColAt W (a.add (i * 4)) c ∧ c.n.size ≤ 9223372036854775807 := by
  rw [cCol] at hc
  obtain ⟨_, hl, hat⟩ := World.cells?_some hc
  obtain ⟨y0, y1, y2, y3, m, _, _, h0, h1, h2, h3⟩ := trod_struct4 Tryz.underlying24 h
  obtain ⟨c0, c1, c2, c3, rfl⟩ : ∃ c0 c1 c2 c3, cs = [c0, c1, c2, c3] := by
    match cs, hl with
    | [c0, c1, c2, c3], _ => exact ⟨c0, c1, c2, c3, rfl⟩
  rw [show Tryz.prog.cellsOf 9 = 1 by kernel_rfl] at h0
  rw [show Tryz.prog.cellsOf 22 = 1 by kernel_rfl] at h1
  rw [show Tryz.prog.cellsOf 3 = 1 by kernel_rfl] at h2
  rw [show Tryz.prog.cellsOf 4 = 1 by kernel_rfl] at h3
  obtain ⟨s, e0, _, hs⟩ := DataW.trod_string Tryz.underlying9 h0
  obtain ⟨u1, e1, _, _⟩ := DataW.trod_int Tryz.underlying22 h1
  obtain ⟨u2, e2, _, _⟩ := DataW.trod_int Tryz.underlying3 h2
  obtain ⟨u, e3, _⟩ := DataW.trod_bool Tryz.underlying4 h3
  simp at e0 e1 e2 e3
  subst e0 e1 e2 e3
  refine ⟨⟨s, u1, u2, u⟩, ⟨?_, ?_, ?_, ?_⟩, hs⟩
  · exact hat 0 (by omega)
  · rw [← add_one _ _ 1 (by omega)]; exact hat 1 (by omega)
  · rw [← add_one _ _ 2 (by omega)]; exact hat 2 (by omega)
  · rw [← add_one _ _ 3 (by omega)]; exact hat 3 (by omega)
theorem cols_cells {W : World} {sp : Nat → Bool} {base : Nat} {held : Bool} {fuel : Nat} {cs : List Value} {x : DataW H × List MemPlace} (hf : DataW.trod enc Tryz.prog W base sp held fuel 51 cs = some x) :
    ∃ oa cap, ∃ l : List Col, cs = [.slice oa l.length cap] ∧ ColsIn W oa l ∧ l.length ≤ cap ∧ cap ≤ 9223372036854775807 ∧ ∀ y ∈ l, y.n.size ≤ 9223372036854775807 := by
  rcases open_slice Tryz.underlying51 hf with ⟨rfl, _⟩ | ⟨a, len, cap, m, n, D, Pl, rfl, _, hl, hm, hmm, _, hi⟩
  · exact ⟨none, 0, [], rfl, fun j hj => absurd hj (Nat.not_lt_zero j), Nat.le_refl _, by omega, fun _ h => by cases h⟩
  · have hlm : len ≤ m := by rw [hmm]; split <;> omega
    obtain ⟨l, hll, hp⟩ := pick_list' (p := fun i (y : Col) => (ColAt W (a.add (i * 4)) y) ∧ y.n.size ≤ 9223372036854775807) len (fun i hi' => by
      obtain ⟨cs, hc, ht⟩ := hi i (by omega)
      exact cells_col hc ht)
    subst hll
    refine ⟨some a, cap, l, rfl, fun j hj => ⟨a, rfl, (hp j hj).1⟩, hl, by unfold maxLen at hm; omega, fun y hy => ?_⟩
    obtain ⟨j, hj, rfl⟩ := List.getElem_of_mem hy
    exact (hp j hj).2
set_option maxRecDepth 100000 in
theorem cells_val6 {W : World} {sp : Nat → Bool} {base : Nat} {held : Bool} {a : Addr} {i : Nat} {cs : List Value} {n : Nat} {x : DataW H × List MemPlace}
    (hc : W.cells? base (a.add (i * Tryz.prog.cellsOf 28)) (Tryz.prog.cellsOf 28) = some cs) (h : DataW.trod enc Tryz.prog W base sp held n 28 cs = some x) :
    ∃ v : Vl, ValAt W (a.add (i * 4)) v ∧ v.s.size ≤ 9223372036854775807 ∧ (Lit.int .i64 v.i).wf = true ∧ (Lit.int .u64 v.u).wf = true := by
  rw [cVal] at hc
  obtain ⟨_, hl, hat⟩ := World.cells?_some hc
  obtain ⟨y0, y1, y2, y3, m, _, _, h0, h1, h2, h3⟩ := trod_struct4 Tryz.underlying28 h
  obtain ⟨c0, c1, c2, c3, rfl⟩ : ∃ c0 c1 c2 c3, cs = [c0, c1, c2, c3] := by
    match cs, hl with
    | [c0, c1, c2, c3], _ => exact ⟨c0, c1, c2, c3, rfl⟩
  rw [show Tryz.prog.cellsOf 25 = 1 by kernel_rfl] at h0
  rw [show Tryz.prog.cellsOf 2 = 1 by kernel_rfl] at h1
  rw [show Tryz.prog.cellsOf 26 = 1 by kernel_rfl] at h2
  rw [show Tryz.prog.cellsOf 9 = 1 by kernel_rfl] at h3
  obtain ⟨k, e0, _, _⟩ := DataW.trod_int Tryz.underlying25 h0
  obtain ⟨u1, e1, _, wf1⟩ := DataW.trod_int Tryz.underlying2 h1
  obtain ⟨u2, e2, _, wf⟩ := DataW.trod_int Tryz.underlying26 h2
  obtain ⟨s, e3, _, hs⟩ := DataW.trod_string Tryz.underlying9 h3
  simp at e0 e1 e2 e3
  subst e0 e1 e2 e3
  refine ⟨⟨k, u1, u2, s⟩, ⟨?_, ?_, ?_, ?_⟩, hs, wf1, wf⟩
  · exact hat 0 (by omega)
  · rw [← add_one _ _ 1 (by omega)]; exact hat 1 (by omega)
  · rw [← add_one _ _ 2 (by omega)]; exact hat 2 (by omega)
  · rw [← add_one _ _ 3 (by omega)]; exact hat 3 (by omega)
theorem vals_cells6 {W : World} {sp : Nat → Bool} {base : Nat} {held : Bool} {fuel : Nat} {cs : List Value} {x : DataW H × List MemPlace} (hf : DataW.trod enc Tryz.prog W base sp held fuel 52 cs = some x) :
    ∃ oa cap, ∃ l : List Vl, cs = [.slice oa l.length cap] ∧ ValsIn W oa l ∧ l.length ≤ cap ∧ cap ≤ 9223372036854775807 ∧ ∀ y ∈ l, y.s.size ≤ 9223372036854775807 ∧ (Lit.int .i64 y.i).wf = true ∧ (Lit.int .u64 y.u).wf = true := by
  rcases open_slice Tryz.underlying52 hf with ⟨rfl, _⟩ | ⟨a, len, cap, m, n, D, Pl, rfl, _, hl, hm, hmm, _, hi⟩
  · exact ⟨none, 0, [], rfl, fun j hj => absurd hj (Nat.not_lt_zero j), Nat.le_refl _, by omega, fun _ h => by cases h⟩
  · have hlm : len ≤ m := by rw [hmm]; split <;> omega
    obtain ⟨l, hll, hp⟩ := pick_list' (p := fun i (y : Vl) => (ValAt W (a.add (i * 4)) y) ∧ y.s.size ≤ 9223372036854775807 ∧ (Lit.int .i64 y.i).wf = true ∧ (Lit.int .u64 y.u).wf = true) len (fun i hi' => by
      obtain ⟨cs, hc, ht⟩ := hi i (by omega)
      exact cells_val6 hc ht)
    subst hll
    refine ⟨some a, cap, l, rfl, fun j hj => ⟨a, rfl, (hp j hj).1⟩, hl, by unfold maxLen at hm; omega, fun y hy => ?_⟩
    obtain ⟨j, hj, rfl⟩ := List.getElem_of_mem hy
    exact (hp j hj).2
set_option maxRecDepth 100000 in
theorem open_vals6 {W : World} {b : Nat} {v : Value} {d : DataW H} {p : List MemPlace} {sp : Nat → Bool} {base : Nat} {held : Bool}
    (hv : Value.okWide Tryz.prog W .any b 52 v) (h : DataW.Trod enc Tryz.prog W base sp held 52 v d p) :
    ∃ oa cap, ∃ l : List Vl, v = .slice oa l.length cap ∧ ValsIn W oa l ∧ l.length ≤ cap ∧ cap ≤ 9223372036854775807 ∧ ∀ y ∈ l, y.s.size ≤ 9223372036854775807 ∧ (Lit.int .i64 y.i).wf = true ∧ (Lit.int .u64 y.u).wf = true := by
  obtain ⟨a0, len0, cap0, rfl⟩ := okWide_slice Tryz.underlying52 hv
  obtain ⟨fuel, hf⟩ := h
  obtain ⟨oa, cap, l, e, r⟩ := vals_cells6 hf
  simp [Value.cells] at e
  obtain ⟨rfl, rfl, rfl⟩ := e
  exact ⟨_, _, l, rfl, r⟩
set_option maxRecDepth 100000 in
theorem open_cols {W : World} {b : Nat} {v : Value} {d : DataW H} {p : List MemPlace} {sp : Nat → Bool} {base : Nat} {held : Bool}
    (hv : Value.okWide Tryz.prog W .any b 51 v) (h : DataW.Trod enc Tryz.prog W base sp held 51 v d p) :
    ∃ oa cap, ∃ l : List Col, v = .slice oa l.length cap ∧ ColsIn W oa l ∧ l.length ≤ cap ∧ cap ≤ 9223372036854775807 ∧ ∀ y ∈ l, y.n.size ≤ 9223372036854775807 := by
  obtain ⟨a0, len0, cap0, rfl⟩ := okWide_slice Tryz.underlying51 hv
  obtain ⟨fuel, hf⟩ := h
  obtain ⟨oa, cap, l, e, r⟩ := cols_cells hf
  simp [Value.cells] at e
  obtain ⟨rfl, rfl, rfl⟩ := e
  exact ⟨_, _, l, rfl, r⟩
end
end Go.Proofs.YtmgeefhacnadcaaGreatDoor
