/-
  THE CARD of swingbridgelaw01.ValueHolds.
-/
import Derived.Test.YtifmfcaaofiboaaGreatDoorOpen
import Derived.Test.YtifmfcaaofiboaaGreatDoorLawHoldsF
namespace Go.Proofs.YtifmfcaaofiboaaGreatDoor.Hlds
open Go.Joins Go.ChangeShapes Go.WideShapes Go.ChangeAt Go.RowKit Go.Deep

section
variable {H : Type} {enc : TypeId × Value → H}
set_option maxRecDepth 100000 in
theorem open_four {W : World} {sp : Nat → Bool} {base : Nat} {held : Bool} {n : Nat} {c0 c1 c2 c3 : Value} {x : DataW H × List MemPlace}
    (h : DataW.trod enc Tryz.prog W base sp held n 25 [c0, c1, c2, c3] = some x) :
    ∃ v : Vl, c0 = .int .i64 v.k ∧ c1 = .int .i64 v.i ∧ c2 = .int .u64 v.u ∧ c3 = .string v.s ∧ (Lit.int .i64 v.i).wf = true ∧ (Lit.int .u64 v.u).wf = true := by
  obtain ⟨y0, y1, y2, y3, m, _, _, h0, h1, h2, h3⟩ := trod_struct4 Tryz.underlying25 h
  rw [show Tryz.prog.cellsOf 22 = 1 by kernel_rfl] at h0
  rw [show Tryz.prog.cellsOf 2 = 1 by kernel_rfl] at h1
  rw [show Tryz.prog.cellsOf 23 = 1 by kernel_rfl] at h2
  rw [show Tryz.prog.cellsOf 9 = 1 by kernel_rfl] at h3
  obtain ⟨k, e0, _, _⟩ := DataW.trod_int Tryz.underlying22 h0
  obtain ⟨u1, e1, _, w1⟩ := DataW.trod_int Tryz.underlying2 h1
  obtain ⟨u2, e2, _, w2⟩ := DataW.trod_int Tryz.underlying23 h2
  obtain ⟨s, e3, _, _⟩ := DataW.trod_string Tryz.underlying9 h3
  simp at e0 e1 e2 e3
  exact ⟨⟨k, u1, u2, s⟩, e0, e1, e2, e3, w1, w2⟩

set_option maxRecDepth 100000 in
theorem open_three {W : World} {v : Value} {d : DataW H} {p : List MemPlace} {sp : Nat → Bool} {base b : Nat} {held : Bool} (hv : Value.okWide Tryz.prog W .any b 52 v)
    (h : DataW.Trod enc Tryz.prog W base sp held 52 v d p) :
    ∃ x y z : Vl, v = .agg #[.int .i64 x.k, .int .i64 x.i, .int .u64 x.u, .string x.s, .int .i64 y.k, .int .i64 y.i, .int .u64 y.u, .string y.s, .int .i64 z.k, .int .i64 z.i, .int .u64 z.u, .string z.s] ∧
      ((Lit.int .i64 x.i).wf = true ∧ (Lit.int .u64 x.u).wf = true) ∧ ((Lit.int .i64 y.i).wf = true ∧ (Lit.int .u64 y.u).wf = true) := by
  have hc3 : Tryz.prog.cellsOf 52 = 12 := by kernel_rfl
  obtain ⟨cs, rfl, hsz⟩ : ∃ cs, v = .agg cs ∧ cs.size = Tryz.prog.cellsOf 52 := by
    simp only [Value.okWide, Tryz.underlying52] at hv
    obtain ⟨cs, h1, h2, _⟩ := hv
    exact ⟨cs, h1, h2⟩
  obtain ⟨fuel, hf⟩ := h
  obtain ⟨xs, m, _, _, _, hlen, hi⟩ := DataW.trod_array Tryz.underlying52 hf
  obtain ⟨l⟩ := cs
  rw [hc3] at hsz
  match l, hsz with
  | [a0, a1, a2, a3, b0, b1, b2, b3, c0, c1, c2, c3], _ =>
    have h0 := hi 0 (by omega)
    have h1 := hi 1 (by omega)
    have h2 := hi 2 (by omega)
    rw [cVal] at h0 h1 h2
    rw [List.getElem?_eq_getElem (by omega)] at h0 h1 h2
    obtain ⟨x, rfl, rfl, rfl, rfl, wx⟩ := open_four (c0 := a0) (c1 := a1) (c2 := a2) (c3 := a3) h0
    obtain ⟨y, rfl, rfl, rfl, rfl, wy⟩ := open_four (c0 := b0) (c1 := b1) (c2 := b2) (c3 := b3) h1
    obtain ⟨z, rfl, rfl, rfl, rfl, _⟩ := open_four (c0 := c0) (c1 := c1) (c2 := c2) (c3 := c3) h2
    exact ⟨x, y, z, rfl, wx, wy⟩
end

set_option maxRecDepth 100000 in
theorem contract (H : Type) (enc : TypeId × Value → H) (W : World) (base : Nat) (args : Array Value) (ds gs : List (DataW H)) (before : List MemPlace)
    (hval : ∀ (j : Nat) t v, Tryz.f7.params[j]? = some t → args[j]? = some v → Value.okWide Tryz.prog W .any base t v)
    (hW : DataW.Whole enc Tryz.prog Tryz.f7.params.toList Rows.valueHoldsSpec.vars false W args.toList ds gs before) (hL : laidMetH Tryz.prog Rows.valueHoldsRow.laid W) :
    Calls Tryz.prog 7 args W fun e W' => ∃ v, e = .returned v ∧ Rows.valueHoldsSpec.post enc Tryz.prog Tryz.f7 false true false false W args v W' := by
  have hW' := hW
  obtain ⟨p, q, hA0, hV, rfl, hfz, hnd⟩ := hW
  have hA : DataW.TrodAll enc Tryz.prog W 0 (fun _ => true) true Tryz.f7.params.toList args.toList ds p := hA0
  rw [Tryz.params7] at hA hval
  obtain ⟨a0, d0, rfl, rfl, t0⟩ := trodAll_one hA
  obtain ⟨rfl, rfl⟩ := trodVars_none hV
  obtain ⟨x, y, z, rfl, wx, wy⟩ := open_three (hval 0 52 a0 rfl rfl) t0
  refine (holds_true x y z W wx wy (hasTab_of hL) (hasET_of hL)).mono fun e W' ⟨he, hb⟩ => ?_
  subst he
  exact ⟨_, rfl, post_true rfl rfl (by decide +kernel) hW' hb rfl⟩

def zeroArgs : Array Value := #[.agg #[.int .i64 0, .int .i64 0, .int .u64 0, .string ⟨#[]⟩, .int .i64 0, .int .i64 0, .int .u64 0, .string ⟨#[]⟩, .int .i64 0, .int .i64 0, .int .u64 0, .string ⟨#[]⟩]]
set_option maxRecDepth 100000 in
theorem reads (os : Os) {H : Type} (enc : TypeId × Value → H) : ∃ places, DataW.whole enc Tryz.prog ((laidWorld os).forCall (fun _ _ => 0) ⟨#[], zeroArgs, []⟩).memory Tryz.f7.params.toList Rows.valueHoldsSpec.vars false zeroArgs.toList 8 = some ([.agg [.agg [.lit (.int .i64 0), .lit (.int .i64 0), .lit (.int .u64 0), .lit (.string [])], .agg [.lit (.int .i64 0), .lit (.int .i64 0), .lit (.int .u64 0), .lit (.string [])], .agg [.lit (.int .i64 0), .lit (.int .i64 0), .lit (.int .u64 0), .lit (.string [])]]], [], places) :=
  ⟨[], by kernel_rfl⟩

set_option maxRecDepth 100000 in
theorem lifted (os : Os) (started : os.Started) (H : Type) (enc : TypeId × Value → H) (F : Stop.Interp) :
    ReturnsInHanded {} Tryz.checked os 7 .any ((OpenSpec.ofChange Rows.valueHoldsSpec).preRow enc Tryz.prog Tryz.f7 Rows.valueHoldsRow.domain false Rows.valueHoldsRow.laid) (((OpenSpec.ofChange Rows.valueHoldsSpec).at F).post enc Tryz.prog Tryz.f7 false true false false) := by
  obtain ⟨places, hx⟩ := reads os enc
  refine returnsInHanded_of_row (C := Tryz.checked) (s := OpenSpec.ofChange Rows.valueHoldsSpec) ownNone started (by kernel_rfl) Tryz.func7
    (witness_row_at (enc := enc) (C := Tryz.checked) false (laidWorld os) zeroArgs rfl (by kernel_rfl) (by kernel_rfl) (by kernel_rfl)
      (OpenSpec.preRow_of_cond 8 hx (by kernel_rfl) (fun k hk => by cases hk) (by kernel_rfl) (laidWorld_met os _))) ?_
  intro W base args ds gs before hval hW _ _ _ hL _ _
  exact contract H enc W base args ds gs before hval hW hL

set_option maxRecDepth 100000 in
theorem said : Rows.ValueHoldsSaid :=
  OpenClaim.holds_of_cond 7 Tryz.f7 rfl rfl rfl rfl rfl rfl rfl ⟨rfl, rfl, rfl, rfl, rfl⟩ rfl rfl rfl rfl rfl (by kernel_rfl) Tryz.func7 (by kernel_rfl)
    (of_decide_eq_true (by kernel_rfl)) (by unfold Func.isWrapper; first | (rw [if_pos (by decide +kernel)]; kernel_rfl) | (rw [if_neg (by decide +kernel)]; exact ⟨rfl, rfl⟩))
    (fun os started H enc _ F => by rw [OpenClaim.pre_eq_preRow]; exact lifted os started H enc F)

theorem plain (f : FuncId) (fn : Func) (hf : Tryz.pinned.checked.prog.funcNamed "swingbridge/swingbridgelaw01.ValueHolds" = some f) (hfn : Tryz.pinned.checked.prog.funcs[f]? = some fn) :
    true = Tryz.pinned.checked.prog.looks [] ∧ ∀ (j : Nat) t, fn.params[j]? = some t → Tryz.pinned.checked.prog.wantsStandIn t = false := by
  obtain rfl : f = 7 := Option.some.inj ((show Tryz.prog.funcNamed "swingbridge/swingbridgelaw01.ValueHolds" = some 7 by kernel_rfl).symm.trans hf) |>.symm
  obtain rfl : fn = Tryz.f7 := (Option.some.inj (Tryz.func7.symm.trans hfn)).symm
  refine ⟨by kernel_rfl, fun j t ht => ?_⟩
  have h : ∀ t ∈ Tryz.f7.params, Tryz.prog.wantsStandIn t = false := by decide +kernel
  exact h t (Array.mem_of_getElem? ht)

/-- THE CARD -/
theorem card : Rows.ValueHoldsCardSaid :=
  Claim7.holds_tied_plain_at .later [] _ _ _ _ said (fun _ h => by cases h) (by kernel_rfl) (fun _ h => by cases h) valueHolds_row_tie rfl ⟨rfl, rfl⟩ (by kernel_rfl) rfl plain (by kernel_rfl)
end Go.Proofs.YtifmfcaaofiboaaGreatDoor.Hlds
