/-
  LogHolds is true: behind a crash a log that is opened anew has the first ones of its records, at least those that were there when the disk was synced last, whatever the records, the sync, the crashes are.
  THE CARD of swingbridgelaw10.LogHolds.
-/
import Derived.Test.YtbhgcioeibhjeaaDoorLHOpen
import Derived.Test.YtbhgcioeibhjeaaDoorLLawI
namespace Go.Proofs.YtbhgcioeibhjeaaDoor.LHol
open Go.Joins Go.ChangeShapes Go.WideShapes Go.ChangeAt Go.RowKit Go.Deep

theorem lawL_true (ol : Option Addr) (cl : Nat) (L : List (List UInt8)) (sy k0 k1 t0 t1 : Int) (w : World) (hET : HasET w) (hL : RowsK (fun _ => False) w w ol L) (hcl : ol = none → cl = 0) (hcap : L.length ≤ cl) (hlen : L.length ≤ 9223372036854775807) (b0 : k0 ≤ 9223372036854775807) (b1 : k1 ≤ 9223372036854775807) (b2 : t0 ≤ 9223372036854775807) (b3 : t1 ≤ 9223372036854775807) :
    Calls Tryd.prog 4 #[.slice ol L.length cl, .int .i64 sy, .agg #[.int .i64 k0, .int .i64 k1], .agg #[.int .i64 t0, .int .i64 t1]] w fun e w' => e = .returned (.bool true) ∧ Below w.heap.size w w' := by
  by_cases hb : 20 < L.length ∨ 60 < maxL L ∨ sy < 0 ∨ (L.length : Int) < sy ∨ k0 < 0 ∨ k1 < 0 ∨ t0 < 0 ∨ t1 < 0
  · exact lawL_bad ol cl L sy k0 k1 t0 t1 w hET hL hlen hb
  · obtain ⟨s, rfl⟩ : ∃ s : Nat, sy = s := ⟨sy.toNat, by omega⟩
    obtain ⟨x0, rfl⟩ : ∃ s : Nat, k0 = s := ⟨k0.toNat, by omega⟩
    obtain ⟨x1, rfl⟩ : ∃ s : Nat, k1 = s := ⟨k1.toNat, by omega⟩
    obtain ⟨x2, rfl⟩ : ∃ s : Nat, t0 = s := ⟨t0.toNat, by omega⟩
    obtain ⟨x3, rfl⟩ : ∃ s : Nat, t1 = s := ⟨t1.toNat, by omega⟩
    exact lawL_ok ol cl L s x0 x1 x2 x3 w hET hL hcl hcap (by omega) (by omega) (by omega) (by omega) (by omega) (by omega) (by omega)
set_option maxRecDepth 100000 in
theorem contract (H : Type) (enc : TypeId × Value → H) (W : World) (base : Nat) (args : Array Value) (ds gs : List (DataW H)) (before : List MemPlace)
    (hval : ∀ (j : Nat) t v, Tryd.f4.params[j]? = some t → args[j]? = some v → Value.okWide Tryd.prog W .any base t v)
    (hW : DataW.Whole enc Tryd.prog Tryd.f4.params.toList Rows.logHoldsSpec.vars false W args.toList ds gs before) (hL0 : laidMetH Tryd.prog Rows.logHoldsRow.laid W) :
    Calls Tryd.prog 4 args W fun e W' => ∃ v, e = .returned v ∧ Rows.logHoldsSpec.post enc Tryd.prog Tryd.f4 false true false false W args v W' := by
  have hW' := hW
  obtain ⟨p, q, hA0, hV, rfl, hfz, hnd⟩ := hW
  have hA : DataW.TrodAll enc Tryd.prog W 0 (fun _ => true) true Tryd.f4.params.toList args.toList ds p := hA0
  rw [Tryd.params4] at hA hval
  obtain ⟨args⟩ := args
  obtain ⟨a0, v1, d0, e1, p0, q1, rfl, rfl, _, t0, r1⟩ := trodAll_cons hA
  obtain ⟨a1, v2, d1, e2, p1, q2, rfl, rfl, _, t1, r2⟩ := trodAll_cons r1
  obtain ⟨a2, v3, d2, e3, p2, q3, rfl, rfl, _, t2, r3⟩ := trodAll_cons r2
  obtain ⟨a3, v4, d3, e4, p3, q4, rfl, rfl, _, t3, r4⟩ := trodAll_cons r3
  obtain ⟨rfl, rfl, _⟩ := trodAll_nil r4
  obtain ⟨rfl, rfl⟩ := trodVars_none hV
  obtain ⟨ol, cl, L, rfl, hL, hcl, hcap, hlen⟩ := open_rowsL (hval 0 40 a0 rfl rfl) t0
  obtain ⟨sy, rfl, h1a, h1b⟩ := open_i64L (hval 1 3 a1 rfl rfl) t1
  obtain ⟨x0, x1, rfl, b0, b1⟩ := open_pairI (hval 2 41 a2 rfl rfl) t2
  obtain ⟨y0, y1, rfl, b2, b3⟩ := open_pairI (hval 3 41 a3 rfl rfl) t3
  refine (lawL_true ol cl L sy x0 x1 y0 y1 W (hasET_of hL0) hL hcl hcap hlen b0 b1 b2 b3).mono fun e W' ⟨he, hb⟩ => ?_
  subst he
  exact ⟨_, rfl, post_true rfl rfl (by decide +kernel) hW' hb rfl⟩

def zeroArgs : Array Value := #[.slice none 0 0, .int .i64 0, .agg #[.int .i64 0, .int .i64 0], .agg #[.int .i64 0, .int .i64 0]]
set_option maxRecDepth 100000 in
theorem reads (os : Os) {H : Type} (enc : TypeId × Value → H) : ∃ places, DataW.whole enc Tryd.prog ((laidWorld os).forCall (fun _ _ => 0) ⟨#[], zeroArgs, []⟩).memory Tryd.f4.params.toList Rows.logHoldsSpec.vars false zeroArgs.toList 8 = some ([.nil, .lit (.int .i64 0), .agg [.lit (.int .i64 0), .lit (.int .i64 0)], .agg [.lit (.int .i64 0), .lit (.int .i64 0)]], [], places) :=
  ⟨[], by kernel_rfl⟩

set_option maxRecDepth 100000 in
theorem lifted (os : Os) (started : os.Started) (H : Type) (enc : TypeId × Value → H) (F : Stop.Interp) :
    ReturnsInHanded {} Tryd.checked os 4 .any ((OpenSpec.ofChange Rows.logHoldsSpec).preRow enc Tryd.prog Tryd.f4 Rows.logHoldsRow.domain false Rows.logHoldsRow.laid) (((OpenSpec.ofChange Rows.logHoldsSpec).at F).post enc Tryd.prog Tryd.f4 false true false false) := by
  obtain ⟨places, hx⟩ := reads os enc
  refine returnsInHanded_of_row (C := Tryd.checked) (s := OpenSpec.ofChange Rows.logHoldsSpec) ownNone started (by kernel_rfl) Tryd.func4
    (witness_row_at (enc := enc) (C := Tryd.checked) false (laidWorld os) zeroArgs rfl (by kernel_rfl) (by kernel_rfl) (by kernel_rfl)
      (OpenSpec.preRow_of_cond 8 hx (by kernel_rfl) (fun k hk => by cases hk) (by kernel_rfl) (laidWorld_met os _))) ?_
  intro W base args ds gs before hval hW _ _ _ hL _ _
  exact contract H enc W base args ds gs before hval hW hL

set_option maxRecDepth 100000 in
theorem said : Rows.LogHoldsSaid :=
  OpenClaim.holds_of_cond 4 Tryd.f4 rfl rfl rfl rfl rfl rfl rfl ⟨rfl, rfl, rfl, rfl, rfl⟩ rfl rfl rfl rfl rfl (by kernel_rfl) Tryd.func4 (by kernel_rfl)
    (of_decide_eq_true (by kernel_rfl)) (by unfold Func.isWrapper; first | (rw [if_pos (by decide +kernel)]; kernel_rfl) | (rw [if_neg (by decide +kernel)]; exact ⟨rfl, rfl⟩))
    (fun os started H enc _ F => by rw [OpenClaim.pre_eq_preRow]; exact lifted os started H enc F)

theorem plain (f : FuncId) (fn : Func) (hf : Tryd.pinned.checked.prog.funcNamed "swingbridge/swingbridgelaw10.LogHolds" = some f) (hfn : Tryd.pinned.checked.prog.funcs[f]? = some fn) :
    true = Tryd.pinned.checked.prog.looks [] ∧ ∀ (j : Nat) t, fn.params[j]? = some t → Tryd.pinned.checked.prog.wantsStandIn t = false := by
  obtain rfl : f = 4 := Option.some.inj ((show Tryd.prog.funcNamed "swingbridge/swingbridgelaw10.LogHolds" = some 4 by kernel_rfl).symm.trans hf) |>.symm
  obtain rfl : fn = Tryd.f4 := (Option.some.inj (Tryd.func4.symm.trans hfn)).symm
  refine ⟨by kernel_rfl, fun j t ht => ?_⟩
  have h : ∀ t ∈ Tryd.f4.params, Tryd.prog.wantsStandIn t = false := by decide +kernel
  exact h t (Array.mem_of_getElem? ht)

/-- THE CARD -/
theorem card : Rows.LogHoldsCardSaid :=
  Claim7.holds_tied_plain_at .later [] _ _ _ _ said (fun _ h => by cases h) (by kernel_rfl) (fun _ h => by cases h) logHolds_row_tie rfl ⟨rfl, rfl⟩ (by kernel_rfl) rfl plain (by kernel_rfl)
end Go.Proofs.YtbhgcioeibhjeaaDoor.LHol
